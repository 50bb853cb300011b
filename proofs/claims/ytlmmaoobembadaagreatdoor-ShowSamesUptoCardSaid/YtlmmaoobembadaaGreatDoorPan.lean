import Derived.Test.YtlmmaoobembadaaGreatDoorPam
open Go.Lib (hid)
namespace Go.Proofs.YtlmmaoobembadaaGreatDoor.Mu
set_option maxHeartbeats 4000000
open Go Go.RowKit Go.Shelf
attribute [local go_sem] Oper.semAt_some
set_option linter.unusedVariables false
set_option maxRecDepth 100000
def encP(x:Nd):Array Value:=#[.int .i64 x.v.d,.agg #[.int .u8 x.v.k,.string ⟨x.v.s.toArray⟩,.int .i64 x.v.n,.int .i64 x.p.a,.int .i64 x.p.l,.int .i64 x.p.c,.slice x.A x.v.kids.len x.ca]]
theorem qdk:(Tryz.prog.info? 76).map (fun i=>(i.zero,i.size,i.bytes))=some (some (.slice none 0 0),1,24):=by kernel_rfl
theorem Zb(A0:Option Addr)(n0 c0 lb kb:Nat)(f0:Tr)(hsz:f0.size<=1000000) :
  SeqL Tryz.prog 170 #[.pointer (some ⟨lb,0,none⟩),.pointer (some ⟨kb,0,none⟩)] encP
   (fun Y W=>W.heap[lb]?=some (.cells #[.slice A0 n0 c0] 76 (0,0))/\W.heap[kb]?=some (.cells #[.func (.func 70) #[] #[]] 128 (0,0))/\KidsTr W (fun j=>j<W.heap.size/\¬ Y j) .pat A0 n0 c0 f0/\¬ Y lb/\¬ Y kb)
   (fun pre x Y W=>(∃ suf,f0.pre 0=pre.map Nd.v++x.v::suf)/\x.at_ W (fun j=>j<W.heap.size/\¬ Y j) .pat)
   (fun xs=>xs.map Nd.v=f0.pre 0):=by
 intro l J Jx Y0 W0 hok hY0 hJ hJx hY h0;obtain⟨hlb,hkb,hkt,hnl,hnk⟩:=hok;have HLB:=hid hlb;have HKB:=hid hkb;have HKT:=hid hkt;have HNL:=hid (And.intro hnl hnk);have HY0:=hid hY0;have HJ:=hid hJ;have HY:=hid hY;have H0:=hid h0;have z0:=jD hlb;obtain⟨i0,hi0,hz0,hz1,hz2⟩:=info_parts qdk;have HL0:Hid (n0=f0.len):=hid hkt.1;clear hlb hkb hkt hnl hnk hY0 hJ hJx hY h0;refine (callsIn_wide (n:=6)).1 ?_;refine callsIn_of_wp Tryz.func170 rfl trivial ?_ rfl;simp only[Tryz.ntmps170,List.size_toArray,List.length_cons,List.length_nil,Nat.reduceAdd,Nat.reduceSub,Array.replicate_succ,Array.replicate_zero,List.push_toArray,List.append_toArray,List.nil_append,List.cons_append];gi_wp2
 obtain⟨base,hbase⟩:∃ base,base=W0.heap.size:=⟨_,rfl⟩
 obtain⟨w1,hw1⟩:∃ w1,w1=W0.alloc (.cells #[.slice A0 n0 c0] 76):=⟨_,rfl⟩
 have hb1:Bel W0 w1:=by rw[hw1];exact (Bel.refl W0).alloc _
 have hq1:w1.heap[base]?=some (.cells #[.slice A0 n0 c0] 76 (0,0)):=by rw[hw1,hbase];exact blk1 W0 _
 have hs1:w1.heap.size=base+1:=by rw[hw1,hbase];simp
 rw[<- hw1,<- hbase];have hlt:lb<base/\kb<base:=by rw[hbase];exact⟨(Array.getElem?_eq_some_iff.1 HLB.out).1,(Array.getElem?_eq_some_iff.1 HKB.out).1⟩
 have HST:Hid (WSt 76 76 128 70 .pat f0 J lb kb base (.slice A0 n0 c0) Y0 W0 (some ⟨base,0,none⟩) 1 1 [⟨A0,c0,f0⟩] [] Y0 w1):=hid (by
  refine⟨rfl,⟨rfl,.inr ⟨base,1,_,rfl,Nat.le_refl _,hq1,Nat.le_refl _,by unfold maxLen;omega,rfl,?_⟩⟩,fun j o e hy=>?_,hb1.blk HLB.out,hb1.blk HKB.out,hlt,HNL.out,?_,HJ.out _ _ _ _ H0.out hb1.size (fun j hj=>hb1.block j (HY0.out j hj)),fun j hj=>⟨Nat.lt_of_lt_of_le (HY0.out j hj) hb1.size,.inl hj⟩,Mv.of_bel hb1,by omega,?_⟩
  ·simp[itV,It.val,<- HL0.out]
  ·cases e;have:=HY0.out _ hy;omega
  ·intro x hx
   simp at hx;subst hx;have hk:=HKT.out;rw[HL0.out]at hk;refine (hk.keep fun j hj=>hb1.block j hj.1).wide fun j hj=>⟨Nat.lt_of_lt_of_le hj.1 hb1.size,hj.2,fun o e=>?_⟩
   cases e
   have:=hj.1;omega
  ·simp[todo])
 have HBS:=hid hbase;clear hb1 hq1 hs1 hw1 hbase z0 hlt HLB HKB HKT H0 HNL HL0;gi_loopw [4] (fun v wr=>∃ k:Nat,∃ S pre Y A cc m,v=.slice A m cc/\Hid (WSt 76 76 128 70 .pat f0 J lb kb base (.slice A0 n0 c0) Y0 W0 A cc m S pre Y wr)/\k=msS S) (fun v wr=>leastOf (fun k:Nat=>∃ S pre Y A cc m,v=.slice A m cc/\Hid (WSt 76 76 128 70 .pat f0 J lb kb base (.slice A0 n0 c0) Y0 W0 A cc m S pre Y wr)/\k=msS S))
 case atStart=>exact⟨_,_,_,_,_,_,_,rfl,HST,rfl⟩
 case round=>
  clear HST;obtain⟨gk,hgk⟩:∃ gk,gk=leastOf (fun k:Nat=>∃ S pre Y A cc m,u4=.slice A m cc/\Hid (WSt 76 76 128 70 .pat f0 J lb kb base (.slice A0 n0 c0) Y0 W0 A cc m S pre Y wr)/\k=msS S):=⟨_,rfl⟩
  have hmin:=(leastOf_spec hrel).1;rw[<- hgk]at hmin;clear hrel;obtain⟨S,pre,Y,A,cc,m,rfl,HW,hms⟩:=hmin;have HGK:=hid hgk;have HMS:=hid hms;clear hgk hms;cases S with
  | nil=>
   have hm:m=0:=HW.out.len;subst hm;gi_wp2
   go_end0
   exact⟨⟨_,rfl⟩,HW.out.mv,pre,Y,HW.out.yl,.inl ⟨by have h:=HW.out.what;simpa [todo] using h.symm,HW.out.j⟩⟩
  | cons it S=>
   obtain⟨mm,hmm⟩:∃ mm,mm=S.length:=⟨_,rfl⟩
   have hm:m=mm+1:=by rw[hmm];exact HW.out.len
   subst hm;obtain⟨g,eA,hbg,hgl,hcc,hcm,hcell,hfz,hrow⟩:=qaA hmm HW.out.row;subst eA;obtain⟨fA,fc,f⟩:=it;obtain⟨fl,hfl⟩:∃ fl,fl=f.len:=⟨_,rfl⟩
   simp only[It.val,<- hfl]at hcell;have hm63:mm+1<=9223372036854775807:=by unfold maxLen at hcm;omega
   have i0':(0:Int)<=(mm:Int):=by omega
   have i1:(mm:Int)<(mm:Int)+1:=by omega
   have i4:(mm:Int)<=(cc:Int):=by omega
   have HMM:=hid hmm;have HFL:=hid hfl;have HROW:=hid hrow;clear hmm hfl hrow hcm;by_cases hf0:fl=0
   ·subst hf0
    obtain rfl:=Tr.len_nil f HFL.out.symm;have HW':Hid (WSt 76 76 128 70 .pat f0 J lb kb base (.slice A0 n0 c0) Y0 W0 (some ⟨g,0,none⟩) cc mm S pre Y wr):=hid (by
     have h:=HW.out;refine⟨HMM.out,HROW.out,h.ny,h.bl,h.bk,h.lt,h.nl,fun x hx=>h.its x (List.mem_cons_of_mem _ hx),h.j,h.yl,h.mv,h.bs,?_⟩;have e:=h.what;simpa [todo,Tr.pre] using e)
    clear hbg HW HROW;gi_wp2
    go_roundw
    case rel=>exact⟨_,S,pre,Y,_,_,_,rfl,HW',rfl⟩
    case measure=>
     refine Nat.lt_of_le_of_lt ((leastOf_spec ⟨_,S,pre,Y,_,_,_,rfl,HW',rfl⟩).2 (msS S) ⟨S,pre,Y,_,_,_,rfl,HW',rfl⟩) ?_;rw[<- HGK.out,HMS.out];simp only[msS];omega
   ·have hkt:=HW.out.its _ List.mem_cons_self
    obtain⟨k,s,n,p,kids,arms,rest,rfl⟩:∃ k s n p kids arms rest,f=.nod k s n p kids arms rest:=by
     have hn:=hkt.isNods (by intro e;cases e);cases f with
     | nil=>exact absurd HFL.out hf0
     | nod k s n p kids arms rest=>exact⟨_,_,_,_,_,_,_,rfl⟩
     | arm=>exact hn.elim
    obtain⟨b,o,eF,hob,hto⟩:=hkt.2.2 (by simp[Tr.len]);simp only at eF;subst eF;obtain⟨A',ca',B',cb',hc,hk2,ha2,hr2⟩:=hto.parts;have y0:=hc 0 _ rfl;have y1:=hc 1 _ rfl;have y2:=hc 2 _ rfl;have y3:=hc 3 _ rfl;have y4:=hc 4 _ rfl;have y5:=hc 5 _ rfl;have y6:=hc 6 _ rfl;simp only[Nat.add_zero]at y0;obtain⟨rl,hrl⟩:∃ rl,rl=rest.len:=⟨_,rfl⟩
    have hfl2:fl=rl+1:=by rw[hrl];exact HFL.out
    subst hfl2;have hbgn:b≠g:=fun e=>hob.2.2 0 (by rw[e]);have hbl:b<wr.heap.size:=hob.1;have hfcl:rl+1<=fc:=by have:=hkt.2.1;rw[<- HFL.out]at this;exact this
    have HKT:=hid hkt;have HP:=hid (And.intro hk2 (And.intro ha2 hr2));have HOB:=hid hob;have HRL:=hid hrl;have HBG:=hid hbg;obtain⟨l1,hl1⟩:∃ l,l=kids.len:=⟨_,rfl⟩
    obtain⟨l2,hl2⟩:∃ l,l=arms.len:=⟨_,rfl⟩
    obtain⟨SS,hSS⟩:∃ S:ByteArray,S=⟨s.toArray⟩:=⟨_,rfl⟩
    rw[<- hSS]at y1;rw[<- hl1]at y6;have hl2':=hl2;try rw[<- hl2]at y7
    clear hl2';have HL1:=hid hl1;have HL2:=hid hl2;have HSS:=hid hSS;have j1:(0:Int)<((rl+1:Nat):Int):=by omega
    have j2:((rl:Int)+1==0)=false:=by simp;omega
    clear hc hkt hto hk2 ha2 hr2 hob hrl hl1 hl2 hSS hbg hf0;simp only[Sh.kd]at y2;obtain⟨x,hxd⟩:∃ x:Nd,x=⟨⟨mm,k,s,n,kids,arms⟩,p,A',ca',B',cb'⟩:=⟨_,rfl⟩
    have hxv:x.v=⟨mm,k,s,n,kids,arms⟩:=by rw[hxd]
    have henc:encP x=#[.int .i64 (mm:Int),.agg #[.int .u8 k,SS,n,p.a,p.l,p.c,.slice A' l1 ca']]:=by rw[hxd,HL1.out,HSS.out];rfl
    have hxat:x.at_ wr (OkI wr Y (some ⟨g,0,none⟩)) .pat:=by rw[hxd];exact⟨HP.out.1,HP.out.2.1⟩
    have HX:=hid (And.intro hxv hxat);have HXD:=hid hxd;have hmem:x.v∈f0.pre 0:=by
     rw[HW.out.what,hxv];simp[todo,Tr.pre,<- HMM.out]
    have hvs:=Tr.pre_size f0 0 x.v hmem;rw[hxv]at hvs;simp only at hvs;have HVS:Hid (kids.size+arms.size<=1000000/\mm<=1000000):=hid (by omega);clear hmem hvs;have HENC:=hid henc;clear hxd hxv henc hxat;by_cases hfc1:fc=1
    ·subst hfc1
     obtain rfl:rl=0:=by omega
     have hres:KidsTr wr (OkI wr Y (some ⟨g,0,none⟩)) .pat (some ⟨b,o,none⟩) rest.len 0 rest:=⟨rfl,by rw[<- HRL.out];exact Nat.le_refl _,fun h=>absurd h (by rw[<- HRL.out];omega)⟩
     have HRES:=hid hres;obtain⟨W2,hW2⟩:∃ W2,W2=(wr.setCell ⟨g,mm,none⟩ (.slice (some ⟨b,o,none⟩) rest.len 0)).alloc (.cells #[.int .u8 k,SS,n,p.a,p.l,p.c,.slice A' l1 ca'] 78):=⟨_,rfl⟩
     obtain⟨hpre,hj2,hyl2⟩:=WSt.hand HJ.out HW.out HMM.out rfl HX.out.1 HX.out.2 hW2;obtain⟨q1,q2,q3,q4⟩:=HW.out.sel hW2;have HQ3:=hid q3;obtain⟨fn,tmps,assign,body,hy,hR⟩:=HY.out pre x Y W2 hpre (HW.out.mv.trans q4 (fun j hj=> .inr (by have:=HBG.out;have:=HBS.out;omega))) hj2 hyl2;rw[HENC.out]at hy;have HW2:=hid hW2;have hrl:=HRL.out;rw[<- hrl]at hW2;rw[hW2]at hy hR;have HW2':=hid hW2;have HS2:Hid (W2.heap.size=wr.heap.size+1):=hid q1;clear hres hpre hj2 hyl2 q1 q2 q3 q4 hW2 hrl;gi_wp2
     refine hR.mono ?_;clear hR hy;rw[<- HW2'.out];rintro e W3 ⟨hmv3,Y3,hy3,⟨rfl,hj3⟩ | ⟨rfl,hjx3⟩⟩
     ·have hyw:∀ j,Y j->j<wr.heap.size:=fun j hj=>(HW.out.yl j hj).1
      have hq3:W3.heap[wr.heap.size]?=some (.cells #[.int .u8 k,SS,n,p.a,p.l,p.c,.slice A' l1 ca'] 78 (0,0)):=(hmv3.block wr.heap.size (by rw[HS2.out];omega) (fun hj=>by have:=hyw _ hj;omega)).trans HQ3.out;have hbk3:W3.heap[kb]?=some (.cells #[.func (.func 70) #[] #[]] 128 (0,0)):=by
       have h:=HW.out;have h1:=(h.sel HW2.out).2.1 kb (by have:=h.lt;have:=h.bs;omega) (by have:=h.lt;have:=HBG.out;omega);exact (hmv3.block kb (by have:=h.lt;have:=h.bs;rw[HS2.out];omega) h.nl.2).trans (h1.trans h.bk)
      have hxat3:Nd.at_ W3 (OkI W3 Y3 (some ⟨g,0,none⟩)) .pat x:=by
       have h:=HW.out;have h2:=(h.sel HW2.out).2.1;refine HX.out.2.keep (fun j hj=>(hmv3.block j (by have:=hj.1;rw[HS2.out];omega) hj.2.1).trans (h2 j hj.1 (fun e=>hj.2.2 0 (by rw[e])))) (fun j hj=>OkI.step (by have:=hmv3.size;rw[HS2.out]at this;omega) (fun j hj=>(hy3 j hj).2.imp id (fun h=>by rw[HS2.out]at h;omega)) (fun j o e=> .inl ⟨o,e⟩) hj)
      rw[Nd.at_,HXD.out]at hxat3;simp only at hxat3;have hek:Calls Tryz.prog 70 #[.agg #[.int .u8 k,SS,n,p.a,p.l,p.c,.slice A' l1 ca']] W3 (fun e w'=>e=.returned (.slice A' l1 ca')/\Bel W3 w'):=by
       rw[HSS.out];exact zS k s n p A' l1 ca' W3
      have HKT3:=hid hxat3.1;have HAR:Hid (arms=.nil):=hid (by
       rcases hxat3.2 with ⟨e,_⟩ | ⟨_,e⟩
       ·cases e
       ·exact Tr.len_nil _ e)
      have HEK:=hid hek;have HMV3:=hid hmv3;have HY3:=hid hy3;have HJ3:=hid hj3;have c0:=jD hbk3;obtain⟨x0,x1,x2,x3,x4,x5,x6⟩:=box7 hq3;have eg:∀ args w,(callFunc 70 args).run Tryz.prog w=.ok (.enter 70 args) w:=fun args w=>by kernel_rfl
      clear hek hmv3 hy3 hj3 hbk3 hq3 hyw hxat3;gi_wp2_with (first | (gi_at_builtin;refine jd ?_) | (refine⟨trivial,?_⟩;gi_at_call 70;refine (callsIn_wide.2 HEK.out).mono ?_;rintro e W4 ⟨rfl,hb4⟩))
      have hrow4:=WSt.row3 HW.out HMM.out HW2.out hgl HMV3.out hb4;have HROW4:=hid hrow4;have HB4:=hid hb4;have hmb:=HVS.out.2;have hbs4:base<=W4.heap.size:=by have:=HW.out.bs;have:=HMV3.out.size;have:=HS2.out;have:=hb4.size;omega
      have HK4:Hid (KidsTr W4 (J3 W3 (OkI W3 Y3 (some ⟨g,0,none⟩)) W4) .pat A' kids.len ca' kids):=hid ((HKT3.out.keep fun j hj=>hb4.block j hj.1).wide fun j hj=> .inl hj);have HPRE:Hid (∀ d,kids.pre d=kids.pre d++arms.pre d):=hid (fun d=>by rw[HAR.out];simp[Tr.pre]);obtain⟨kl,hkl⟩:∃ kl,kl=l1:=⟨_,rfl⟩
      rw[<- hkl];have HKL:Hid (kl=kids.len):=hid (by rw[hkl];exact HL1.out);obtain⟨A5,hA5⟩:∃ A5,A5=A':=⟨_,rfl⟩
      obtain⟨c5,hc5⟩:∃ c5,c5=ca':=⟨_,rfl⟩
      rw[<- hA5,<- hc5]at HK4 ⊢;clear hA5 hc5;clear hrow4 hb4 c0 x0 x1 x2 x3 x4 x5 x6 hkl;unfold zT;refine wpListIn_append_own_at _ rfl _ _ 237 rfl base 76 i0 (.slice none 0 0) 1 24 Tryz.underlying237 hi0 hz0 hz1 hz2 rfl (by decide) (.slice (some ⟨g,0,none⟩) (mm+1) cc) (mm+1) _ rfl (HROW4.out.alloc _) ⟨W4.heap.size,0,none⟩ 1 1 [.slice A5 kl c5] rfl rfl (fun j u hu=>by rw[Addr.add_lit,Nat.zero_add];exact qH _ _ _ j u hu) (by simp[Value.oneCell']) (by unfold maxLen;omega) (by omega) (by simp;omega) ?_;intro v' w5 hown5 hg5 _ hat5;obtain⟨g5,c6,rfl,hws⟩:=WSt.next HJ.out HW.out HMM.out rfl HX.out.1 HRES.out HW2.out hgl HBG.out HMV3.out HY3.out HJ3.out HB4.out (K:=⟨A5,c5,kids⟩) HK4.out HPRE.out (by rw[HBS.out];exact Nat.le_refl _) (by have h:=hown5;rw[HKL.out]at h;exact h) hg5 hat5;have HWS:=hid hws;clear hown5 hg5 hat5 hws;gi_wp2
      go_roundw
      case rel=>exact⟨_,_,_,_,_,_,_,rfl,HWS,rfl⟩
      case measure=>
       refine Nat.lt_of_le_of_lt ((leastOf_spec ⟨_,_,_,_,_,_,_,rfl,HWS,rfl⟩).2 _ ⟨_,_,_,_,_,_,rfl,HWS,rfl⟩) ?_;rw[<- HGK.out,HMS.out];simp only[msS,Tr.size];omega
     ·have HJX:=hid hjx3
      have HM3:=hid (And.intro hmv3 hy3);clear hmv3 hy3 hjx3;gi_wp2
      (try simp only[Exit.inBlock,Exit.then])
      refine bodyPost_ret (results_none rfl _ _ _) rfl ?_;have s4:=(HW.out.sel HW2.out).2.2.2;have z2:=HS2.out;have zb:=HW.out.bs;refine⟨⟨_,rfl⟩,?_,pre++[x],Y3,fun j hj=>⟨(HM3.out.2 j hj).1,?_⟩,.inr HJX.out⟩
      ·exact ((HW.out.mv.trans s4 (fun j hj=> .inr (by have:=HBG.out;have:=HBS.out;omega))).trans HM3.out.1 (fun j hj=>(HW.out.yl j hj).2))
      ·rcases (HM3.out.2 j hj).2 with h' | h'
       ·exact (HW.out.yl j h').2
       ·right;have:=HBS.out;omega
    ·have hres:KidsTr wr (OkI wr Y (some ⟨g,0,none⟩)) .pat (some ⟨b,o+7,none⟩) rest.len (fc-1) rest:=⟨rfl,by rw[<- HRL.out];omega,fun _=>⟨b,o+7,rfl,HOB.out,HP.out.2.2⟩⟩
     have HRES:=hid hres;obtain⟨W2,hW2⟩:∃ W2,W2=(wr.setCell ⟨g,mm,none⟩ (.slice (some ⟨b,o+7,none⟩) rest.len (fc-1))).alloc (.cells #[.int .u8 k,SS,n,p.a,p.l,p.c,.slice A' l1 ca'] 78):=⟨_,rfl⟩
     obtain⟨hpre,hj2,hyl2⟩:=WSt.hand HJ.out HW.out HMM.out rfl HX.out.1 HX.out.2 hW2;obtain⟨q1,q2,q3,q4⟩:=HW.out.sel hW2;have HQ3:=hid q3;obtain⟨fn,tmps,assign,body,hy,hR⟩:=HY.out pre x Y W2 hpre (HW.out.mv.trans q4 (fun j hj=> .inr (by have:=HBG.out;have:=HBS.out;omega))) hj2 hyl2;rw[HENC.out]at hy;have HW2:=hid hW2;have hrl:=HRL.out;rw[<- hrl]at hW2;rw[hW2]at hy hR;have HW2':=hid hW2;have HS2:Hid (W2.heap.size=wr.heap.size+1):=hid q1;clear hres hpre hj2 hyl2 q1 q2 q3 q4 hW2 hrl;gi_wp2
     refine hR.mono ?_;clear hR hy;rw[<- HW2'.out];rintro e W3 ⟨hmv3,Y3,hy3,⟨rfl,hj3⟩ | ⟨rfl,hjx3⟩⟩
     ·have hyw:∀ j,Y j->j<wr.heap.size:=fun j hj=>(HW.out.yl j hj).1
      have hq3:W3.heap[wr.heap.size]?=some (.cells #[.int .u8 k,SS,n,p.a,p.l,p.c,.slice A' l1 ca'] 78 (0,0)):=(hmv3.block wr.heap.size (by rw[HS2.out];omega) (fun hj=>by have:=hyw _ hj;omega)).trans HQ3.out;have hbk3:W3.heap[kb]?=some (.cells #[.func (.func 70) #[] #[]] 128 (0,0)):=by
       have h:=HW.out;have h1:=(h.sel HW2.out).2.1 kb (by have:=h.lt;have:=h.bs;omega) (by have:=h.lt;have:=HBG.out;omega);exact (hmv3.block kb (by have:=h.lt;have:=h.bs;rw[HS2.out];omega) h.nl.2).trans (h1.trans h.bk)
      have hxat3:Nd.at_ W3 (OkI W3 Y3 (some ⟨g,0,none⟩)) .pat x:=by
       have h:=HW.out;have h2:=(h.sel HW2.out).2.1;refine HX.out.2.keep (fun j hj=>(hmv3.block j (by have:=hj.1;rw[HS2.out];omega) hj.2.1).trans (h2 j hj.1 (fun e=>hj.2.2 0 (by rw[e])))) (fun j hj=>OkI.step (by have:=hmv3.size;rw[HS2.out]at this;omega) (fun j hj=>(hy3 j hj).2.imp id (fun h=>by rw[HS2.out]at h;omega)) (fun j o e=> .inl ⟨o,e⟩) hj)
      rw[Nd.at_,HXD.out]at hxat3;simp only at hxat3;have hek:Calls Tryz.prog 70 #[.agg #[.int .u8 k,SS,n,p.a,p.l,p.c,.slice A' l1 ca']] W3 (fun e w'=>e=.returned (.slice A' l1 ca')/\Bel W3 w'):=by
       rw[HSS.out];exact zS k s n p A' l1 ca' W3
      have HKT3:=hid hxat3.1;have HAR:Hid (arms=.nil):=hid (by
       rcases hxat3.2 with ⟨e,_⟩ | ⟨_,e⟩
       ·cases e
       ·exact Tr.len_nil _ e)
      have HEK:=hid hek;have HMV3:=hid hmv3;have HY3:=hid hy3;have HJ3:=hid hj3;have c0:=jD hbk3;obtain⟨x0,x1,x2,x3,x4,x5,x6⟩:=box7 hq3;have eg:∀ args w,(callFunc 70 args).run Tryz.prog w=.ok (.enter 70 args) w:=fun args w=>by kernel_rfl
      clear hek hmv3 hy3 hj3 hbk3 hq3 hyw hxat3;gi_wp2_with (first | (gi_at_builtin;refine jd ?_) | (refine⟨trivial,?_⟩;gi_at_call 70;refine (callsIn_wide.2 HEK.out).mono ?_;rintro e W4 ⟨rfl,hb4⟩))
      have hrow4:=WSt.row3 HW.out HMM.out HW2.out hgl HMV3.out hb4;have HROW4:=hid hrow4;have HB4:=hid hb4;have hmb:=HVS.out.2;have hbs4:base<=W4.heap.size:=by have:=HW.out.bs;have:=HMV3.out.size;have:=HS2.out;have:=hb4.size;omega
      have HK4:Hid (KidsTr W4 (J3 W3 (OkI W3 Y3 (some ⟨g,0,none⟩)) W4) .pat A' kids.len ca' kids):=hid ((HKT3.out.keep fun j hj=>hb4.block j hj.1).wide fun j hj=> .inl hj);have HPRE:Hid (∀ d,kids.pre d=kids.pre d++arms.pre d):=hid (fun d=>by rw[HAR.out];simp[Tr.pre]);obtain⟨kl,hkl⟩:∃ kl,kl=l1:=⟨_,rfl⟩
      rw[<- hkl];have HKL:Hid (kl=kids.len):=hid (by rw[hkl];exact HL1.out);obtain⟨A5,hA5⟩:∃ A5,A5=A':=⟨_,rfl⟩
      obtain⟨c5,hc5⟩:∃ c5,c5=ca':=⟨_,rfl⟩
      rw[<- hA5,<- hc5]at HK4 ⊢;clear hA5 hc5;clear hrow4 hb4 c0 x0 x1 x2 x3 x4 x5 x6 hkl;unfold zT;refine wpListIn_append_own_at _ rfl _ _ 237 rfl base 76 i0 (.slice none 0 0) 1 24 Tryz.underlying237 hi0 hz0 hz1 hz2 rfl (by decide) (.slice (some ⟨g,0,none⟩) (mm+1) cc) (mm+1) _ rfl (HROW4.out.alloc _) ⟨W4.heap.size,0,none⟩ 1 1 [.slice A5 kl c5] rfl rfl (fun j u hu=>by rw[Addr.add_lit,Nat.zero_add];exact qH _ _ _ j u hu) (by simp[Value.oneCell']) (by unfold maxLen;omega) (by omega) (by simp;omega) ?_;intro v' w5 hown5 hg5 _ hat5;obtain⟨g5,c6,rfl,hws⟩:=WSt.next HJ.out HW.out HMM.out rfl HX.out.1 HRES.out HW2.out hgl HBG.out HMV3.out HY3.out HJ3.out HB4.out (K:=⟨A5,c5,kids⟩) HK4.out HPRE.out (by rw[HBS.out];exact Nat.le_refl _) (by have h:=hown5;rw[HKL.out]at h;exact h) hg5 hat5;have HWS:=hid hws;clear hown5 hg5 hat5 hws;gi_wp2
      go_roundw
      case rel=>exact⟨_,_,_,_,_,_,_,rfl,HWS,rfl⟩
      case measure=>
       refine Nat.lt_of_le_of_lt ((leastOf_spec ⟨_,_,_,_,_,_,_,rfl,HWS,rfl⟩).2 _ ⟨_,_,_,_,_,_,rfl,HWS,rfl⟩) ?_;rw[<- HGK.out,HMS.out];simp only[msS,Tr.size];omega
     ·have HJX:=hid hjx3
      have HM3:=hid (And.intro hmv3 hy3);clear hmv3 hy3 hjx3;gi_wp2
      (try simp only[Exit.inBlock,Exit.then])
      refine bodyPost_ret (results_none rfl _ _ _) rfl ?_;have s4:=(HW.out.sel HW2.out).2.2.2;have z2:=HS2.out;have zb:=HW.out.bs;refine⟨⟨_,rfl⟩,?_,pre++[x],Y3,fun j hj=>⟨(HM3.out.2 j hj).1,?_⟩,.inr HJX.out⟩
      ·exact ((HW.out.mv.trans s4 (fun j hj=> .inr (by have:=HBG.out;have:=HBS.out;omega))).trans HM3.out.1 (fun j hj=>(HW.out.yl j hj).2))
      ·rcases (HM3.out.2 j hj).2 with h' | h'
       ·exact (HW.out.yl j h').2
       ·right;have:=HBS.out;omega
set_option maxHeartbeats 4000000
theorem Za(A:Option Addr)(n c:Nat)(w:World):Calls Tryz.prog 128 #[.slice A n c,.func (.func 70) #[] #[]] w fun e w'=>e=.returned (.func (.func 170) #[] #[.pointer (some ⟨w.heap.size,0,none⟩),.pointer (some ⟨w.heap.size+1,0,none⟩)])/\w'=(w.alloc (.cells #[.slice A n c] 76)).alloc (.cells #[.func (.func 70) #[] #[]] 128):=by
 go_enter Tryz.func128,Tryz.ntmps128
 go_wp2
 go_ret
 exact⟨rfl,rfl⟩
theorem qdo(k:Int)(s:List UInt8)(n:Int)(p:Pl)(A:Option Addr)(l c:Nat)(w:World):Calls Tryz.prog 71 #[.agg #[.int .u8 k,.string ⟨s.toArray⟩,n,p.a,p.l,p.c,.slice A l c]] w fun e w'=>e=.returned (.int .i64 1)/\Bel w w':=by
 go_enter Tryz.func71,Tryz.ntmps71
 go_wp2
 go_ret
 exact⟨rfl,(Bel.refl w).alloc _⟩
theorem qbX(A:Option Addr)(n c:Nat)(f:Tr)(w:World)(hk:KidsTr w (OldT w) .pat A n c f)(hsz:f.size<=1000000) :
  Calls Tryz.prog 68 #[.slice A n c,.func (.func 70) #[] #[],.func (.func 71) #[] #[]] w fun e w'=>e=.returned (.int .i64 (f.depth:Int))/\Bel w w':=by
 have HK:=hid hk;clear hk;refine (callsIn_wide (n:=6)).1 ?_;refine callsIn_of_wp_marks Tryz.func68 rfl trivial ?_ rfl;simp only[Tryz.ntmps68,List.size_toArray,List.length_cons,List.length_nil,Nat.reduceAdd,Nat.reduceSub,Array.replicate_succ,Array.replicate_zero,List.push_toArray,List.append_toArray,List.nil_append,List.cons_append];gi_wp2_with (refine⟨trivial,?_⟩;gi_at_call 128;refine (callsIn_wide.2 (Za _ _ _ _)).mono ?_;rintro e w2 ⟨rfl,rfl⟩)
 obtain⟨hb,hhb⟩:∃ hb,hb=w.heap.size:=⟨_,rfl⟩
 obtain⟨wq,hwq⟩:∃ wq,wq=(((w.alloc (.cells #[.func (.func 71) #[] #[]] 129)).alloc (.cells #[.int .i64 0] 3)).alloc (.cells #[.slice A n c] 76)).alloc (.cells #[.func (.func 70) #[] #[]] 128):=⟨_,rfl⟩
 have hbq:Bel w wq:=by rw[hwq];exact ((((Bel.refl w).alloc _).alloc _).alloc _).alloc _
 have hsq:wq.heap.size=hb+4:=by rw[hwq,hhb];simp
 have hq4:=blk4 w (.cells #[.func (.func 71) #[] #[]] 129) (.cells #[.int .i64 0] 3) (.cells #[.slice A n c] 76) (.cells #[.func (.func 70) #[] #[]] 128);rw[<- hwq,<- hhb]at hq4;obtain⟨q0,q1,q2,q3⟩:=hq4;replace q0:Boxed wq hb 129 (.func (.func 71) #[] #[]):=q0
 replace q1:Boxed wq (hb+1) 3 (.int .i64 0):=q1
 replace q2:Boxed wq (hb+2) 76 (.slice A n c):=q2
 replace q3:Boxed wq (hb+3) 128 (.func (.func 70) #[] #[]):=q3
 rw[<- hwq,<- hhb];have HBQ:=hid hbq;have HHB:=hid hhb;have HSQ:=hid hsq;have Q0:=hid q0;have Q1:=hid q1;have Q2:=hid q2;have Q3:=hid q3;clear hwq hbq hsq q0 q1 q2 q3 hhb;refine zp (α:=Nd) (gf:=170) (lb:=#[.pointer (some ⟨hb+2,0,none⟩),.pointer (some ⟨hb+3,0,none⟩)]) rfl (fun args w=>by kernel_rfl) (encs:=encP) (Zb A n c (hb+2) (hb+3) f hsz) (fun _=>rfl)
  (fun pre x Y W W' h hs hk=>⟨h.1,h.2.keep (fun j hj=>hk j hj.1 hj.2) (fun j hj=>⟨Nat.lt_of_lt_of_le hj.1 hs,hj.2⟩)⟩)
  (fun xs Y W=>(∀ k,Y k↔(k=hb∨k=hb+1))/\Boxed W hb 129 (.func (.func 71) #[] #[])/\Boxed W (hb+1) 3 (.int .i64 (vmax hdE 0 (xs.map Nd.v):Nat))/\hb+4<=W.heap.size) (fun _ _ _=>False) ?_ (fun _ _ _ _ h _ _=>h)
  (Y0:=fun k=>k=hb∨k=hb+1) ?_ (fun k hk=>by have:=HSQ.out;omega) ⟨fun _=>Iff.rfl,Q0.out,Q1.out,by rw[HSQ.out];exact Nat.le_refl _⟩
  (fun x bx=>{ tmps:=#[.slice A n c,.func (.func 70) #[] #[],.func (.func 71) #[] #[],undef,undef,.pointer (some ⟨hb,0,none⟩),(0:Int),.pointer (some ⟨hb+1,0,none⟩),x.v.d,.pointer (some ⟨bx,0,none⟩),.slice A n c,.func (.func 70) #[] #[],.func (.func 170) #[] #[.pointer (some ⟨hb+2,0,none⟩),.pointer (some ⟨hb+3,0,none⟩)],x.v.d,.agg #[.int .u8 x.v.k,.string ⟨x.v.s.toArray⟩,x.v.n,x.p.a,x.p.l,x.p.c,.slice x.A x.v.kids.len x.ca],undef,undef,undef,undef,undef,undef,undef,undef],defers:=[] })
  (fun x=> .cells #[.int .u8 x.v.k,.string ⟨x.v.s.toArray⟩,x.v.n,x.p.a,x.p.l,x.p.c,.slice x.A x.v.kids.len x.ca] 78) ?_ ?_ ?_ ?_
 ·rintro s Y W W' ⟨h1,h2,h3,h4⟩ hs hk
  exact⟨h1,(hk hb ((h1 hb).2 (.inl rfl))).trans h2,(hk (hb+1) ((h1 _).2 (.inr rfl))).trans h3,Nat.le_trans h4 hs⟩
 ·rintro Y W hbW hY
  have hn:∀ j,Y j->hb<=j/\j≠hb+2/\j≠hb+3:=fun j hj=>by
   have:=HSQ.out;rcases hY j hj with (h | h) | h <;> omega
  refine⟨hbW.blk Q2.out,hbW.blk Q3.out,(HK.out.keep (fun j hj=>(HBQ.out.on hbW).block j hj)).wide (fun j hj=>⟨Nat.lt_of_lt_of_le hj (HBQ.out.on hbW).size,fun h=>?_⟩),fun h=>(hn _ h).2.1 rfl,fun h=>(hn _ h).2.2 rfl⟩;have h1:=(hn j h).1;have h2:j<w.heap.size:=hj;rw[HHB.out]at h1;omega
 ·rintro l x W K hK
  have HKK:=hid hK;clear hK;simp only[encP];gi_wp2
  exact HKK.out
 ·rintro l bx pre x Y W hbx1 hbx2 hob hYb ⟨Y',hYY,⟨suf,hpre⟩,hat⟩ hmv0 hYl ⟨hY,hi1,hi2,hi3⟩ hYs
  have hmem:x.v∈f.pre 0:=by rw[hpre];simp
  have hvs:=Tr.pre_size f 0 x.v hmem;have HVS:Hid (x.v.kids.size+x.v.arms.size<=1000000/\x.v.d<=1000000):=hid (by omega);have HAT:=hid hat;have HYS:=hid hYs;have HY:=hid hY;have HYY:=hid hYY;have HI1:=hid hi1;have HI2:=hid hi2;have HI3:=hid hi3;have HBX:=hid hbx1;obtain⟨m,hm⟩:∃ m,m=vmax hdE 0 (pre.map Nd.v):=⟨_,rfl⟩
  rw[<- hm]at HI2 hi2;have HM:=hid hm;obtain⟨xv,xp,xA,xca,xB,xcb⟩:=x;obtain⟨d,k,s,nn,kids,arms⟩:=xv;obtain⟨l1,hl1⟩:∃ l,l=kids.len:=⟨_,rfl⟩
  obtain⟨l2,hl2⟩:∃ l,l=arms.len:=⟨_,rfl⟩
  obtain⟨SS,hSS⟩:∃ S:ByteArray,S=⟨s.toArray⟩:=⟨_,rfl⟩
  obtain⟨hv,hhv⟩:∃ hv,hv=hdE ⟨d,k,s,nn,kids,arms⟩:=⟨_,rfl⟩
  have HHV:=hid hhv;simp only at HAT HVS hob ⊢;have har:arms=.nil:=by
   rcases HAT.out.2 with ⟨e,_⟩ | ⟨_,e⟩
   ·cases e
   ·exact Tr.len_nil _ e
  have hv1:hv=1:=by rw[hhv,har];rfl
  have HC:Hid (∀ W',Bel W W'->Calls Tryz.prog 71 #[.agg #[.int .u8 k,.string ⟨s.toArray⟩,nn,xp.a,xp.l,xp.c,.slice xA kids.len xca]] W' fun e w'=>e=.returned (.int .i64 (hv:Int))/\Bel W' w'):=hid fun W' _=>by
   rw[hv1];exact qdo k s nn xp xA kids.len xca W'
  have HV1:=hid hv1;clear hv1 har;simp only[<- hl1,<- hSS]at hob HC ⊢;have hvb:hv<=1000001:=by have:=HV1.out;omega
  have hdb:d<=1000000:=HVS.out.2;obtain⟨x0,x1,x2,x3,x4,x5,x6⟩:=box7 hob;have eg:∀ args w,(callFunc 71 args).run Tryz.prog w=.ok (.enter 71 args) w:=fun args w=>by kernel_rfl
  have y0:=qa hbx2 x0;have y1:=qa hbx2 x1;have y2:=qa hbx2 x2;have y3:=qa hbx2 x3;have y4:=qa hbx2 x4;have y5:=qa hbx2 x5;have y6:=qa hbx2 x6;have z0:=qa (by have:=HI3.out;omega) hi1.cell;have z1:=qa (by have:=HI3.out;omega) hi2.cell;clear hmv0 hpre hmem hvs hat hYs hY hYY hi1 hi2 hi3 hob hYl hbx1 hYb hl1 hl2 hSS hhv hm;gi_wp2_with fail
  refine zh 7 (by kernel_rfl) (by kernel_rfl) (fun ⟨_,_,h⟩=>h) (by kernel_rfl) ?_;simp only[List.take_succ_cons,List.take_zero,List.drop_succ_cons,List.drop_zero];repeat (go_big_quiet_step (exact (HC.out _ (Abw.bel _)).mono fun e w h=>⟨h.1,⟨_,(Abw.bel _).on h.2⟩,rfl⟩))
  refine wpQuiet_nil ?_;rintro w4 ⟨⟨w4,hb4⟩,rfl⟩;have HB4:=hid hb4;have f1:w4.cell? ⟨hb+1,0,none⟩=some (.int .i64 (m:Int)):=z1 ⟨w4,hb4⟩;have f2:w4.frozen? ⟨hb+1,0,none⟩=false:=Boxed.frozen (hb4.blk HI2.out);clear z0 z1 x0 x1 x2 x3 x4 x5 x6 y0 y1 y2 y3 y4 y5 y6;go_wp2_with fail
  have hB1:Boxed w4 hb 129 (.func (.func 71) #[] #[]):=HB4.out.blk HI1.out;have hB2:Boxed w4 (hb+1) 3 (.int .i64 (m:Int)):=HB4.out.blk HI2.out;refine⟨Mv.set_ (p:=⟨hb+1,0,none⟩) (Mv.of_bel HB4.out) (.inl ((HY.out (hb+1)).2 (.inr rfl))) _,Y,⟨HY.out,hB1.other (by omega) _,?_,by have:=HB4.out.size;have:=HI3.out;simp;omega⟩,fun j hj=>⟨by have:=HB4.out.size;have:=HYS.out j hj;simp;omega,.inl hj⟩⟩;have e:((vmax hdE 0 (List.map Nd.v (pre++[⟨⟨d,k,s,nn,kids,arms⟩,xp,xA,xca,xB,xcb⟩])):Nat):Int)=max (m:Int) ((d:Int)+(hv:Int)):=by
   rw[List.map_append,List.map_cons,List.map_nil,Q8,<- HM.out,<- HHV.out];simp only;omega
  rw[e];exact hB2.set _
 ·rintro D xs Y W hD hfin ⟨hY,hi1,hi2,hi3⟩ hmv hYs hDd hYD
  have HI:=hid hi2;have HFIN:=hid hfin;have HMV:=hid hmv;have HDD:=hid hDd;have HDL:=hid hD;have c1:=hi2.cell;clear hY hi1 hi2 hi3 hmv hYs hDd hYD hfin hD;simp only[Exit.inBlock,Exit.then];gi_wp2
  refine qz HDD.out (fun w' hmw=>⟨_,results_tmp rfl _ _ _,?_⟩);refine⟨?_,?_⟩
  ·have hk':=HK.out
   rw[show f.depth=vmax hdE 0 (xs.map Nd.v) by rw[HFIN.out,Tr.depth_pre f (hk'.isNods (by intro e;cases e)) hk'.ok]];rfl
  ·have h1:Mv (fun k=>k=hb∨k=hb+1) w W:=(Mv.of_bel HBQ.out).trans HMV.out (fun j hj=> .inl hj)
   have h2:Mv (fun _=>False) w W:=⟨h1.os,h1.tape,h1.output,h1.size,fun j hj _=>h1.block j hj (by have:=HHB.out;omega)⟩
   exact (h2.trans hmw (fun j hj=> .inr (by have:=HDL.out;have:=HBQ.out.size;omega))).bel
 ·rintro D xs Y W _ h
  exact h.elim
set_option maxHeartbeats 4000000
theorem Ze(A:Option Addr)(n c:Nat)(w:World):Calls Tryz.prog 66 #[.slice A n c,.func (.func 28) #[] #[]] w fun e w'=>e=.returned (.func (.func 127) #[] #[.pointer (some ⟨w.heap.size,0,none⟩),.pointer (some ⟨w.heap.size+1,0,none⟩)])/\w'=(w.alloc (.cells #[.slice A n c] 29)).alloc (.cells #[.func (.func 28) #[] #[]] 67):=by
 go_enter Tryz.func66,Tryz.ntmps66
 go_wp2
 go_ret
 exact⟨rfl,rfl⟩
theorem ZU(k:Int)(s:List UInt8)(n:Int)(p:Pl)(A:Option Addr)(c:Nat)(B:Option Addr)(bc:Nat)(kids arms:Tr)(w:World)(hk:KidsTr w (OldT w) .ex A kids.len c kids)(ha:KidsTr w (OldT w) .arms B arms.len bc arms)(hsz:kids.size+arms.size<=1000000) :
  Calls Tryz.prog 29 #[.agg #[.int .u8 k,.string ⟨s.toArray⟩,n,p.a,p.l,p.c,.slice A kids.len c,.slice B arms.len bc]] w fun e w'=>e=.returned (.int .i64 ((1+arms.pdepth:Nat):Int))/\Bel w w':=by
 have HP:Hid (∀ W,Bel w W->Calls Tryz.prog 69 #[.agg #[.int .u8 k,.string ⟨s.toArray⟩,n,p.a,p.l,p.c,.slice A kids.len c,.slice B arms.len bc]] W (jp W (OldT W) .pat arms.pats)):=hid fun W hW=>zD k s n p A c B bc kids arms (OldT W) W (hk.bel hW) (ha.bel hW) (fun _ h=>h) (by have:=kids.len_le;omega) (by have:=arms.len_le;omega);have hps:arms.pats.size<=1000000:=by have:=arms.pats_size;omega
 have HPS:=hid hps;obtain⟨pd,hpd⟩:∃ pd,pd=arms.pdepth:=⟨_,rfl⟩
 have hpb:pd<=1000000:=by rw[hpd];have:=arms.pdepth_le;have:=arms.depth_le;omega
 have HD:Hid (∀ (A2:Option Addr) (c2:Nat) (W:World),KidsTr W (OldT W) .pat A2 arms.pats.len c2 arms.pats->Calls Tryz.prog 68 #[.slice A2 arms.pats.len c2,.func (.func 70) #[] #[],.func (.func 71) #[] #[]] W fun e w'=>e=.returned (.int .i64 (pd:Int))/\Bel W w'):=hid fun A2 c2 W h=>by
  rw[hpd,<- Tr.pats_depth];exact qbX A2 arms.pats.len c2 arms.pats W h HPS.out
 rw[<- hpd];obtain⟨pl,hpl⟩:∃ pl,pl=arms.pats.len:=⟨_,rfl⟩
 have HPL:=hid hpl;rw[<- hpl]at HD;obtain⟨l1,hl1⟩:∃ l,l=kids.len:=⟨_,rfl⟩
 obtain⟨l2,hl2⟩:∃ l,l=arms.len:=⟨_,rfl⟩
 obtain⟨SS,hSS⟩:∃ S:ByteArray,S=⟨s.toArray⟩:=⟨_,rfl⟩
 rw[<- hl1,<- hl2,<- hSS]at HP ⊢;clear hk ha hsz hps hpd hpl hl1 hl2 hSS;go_enter Tryz.func29,Tryz.ntmps29
 go_wp2_with fail
 have hb1:Bel w (w.alloc (.cells #[.int .u8 k,SS,n,p.a,p.l,p.c,.slice A l1 c,.slice B l2 bc] 32)):=(Bel.refl w).alloc _;have HB1:=hid hb1;clear hb1;refine (HP.out _ HB1.out).mono ?_;rintro e w2 ⟨A2,c2,rfl,hb2,hk2⟩;have HB2:=hid (HB1.out.on hb2);have HK2:Hid (KidsTr w2 (OldT w2) .pat A2 pl c2 arms.pats):=hid (by rw[HPL.out];exact hk2.wide fun j hj=>by rcases hj with h | h;exact Nat.lt_of_lt_of_le h hb2.size;exact h.2);rw[<- HPL.out];clear hb2 hk2 HP;go_wp2_with fail
 refine (HD.out A2 c2 w2 HK2.out).mono ?_;rintro e w3 ⟨rfl,hb3⟩;have HB3:=hid (HB2.out.on hb3);clear hb3;go_wp2_with fail
 go_ret
 exact⟨by simp,HB3.out⟩
theorem qbZ(A:Option Addr)(n c:Nat)(f:Tr)(w:World)(hk:KidsTr w (OldT w) .ex A n c f)(hsz:f.size<=1000000) :
  Calls Tryz.prog 27 #[.slice A n c,.func (.func 28) #[] #[],.func (.func 29) #[] #[]] w fun e w'=>e=.returned (.int .i64 (f.depth:Int))/\Bel w w':=by
 have HK:=hid hk;clear hk;refine (callsIn_wide (n:=6)).1 ?_;refine callsIn_of_wp_marks Tryz.func27 rfl trivial ?_ rfl;simp only[Tryz.ntmps27,List.size_toArray,List.length_cons,List.length_nil,Nat.reduceAdd,Nat.reduceSub,Array.replicate_succ,Array.replicate_zero,List.push_toArray,List.append_toArray,List.nil_append,List.cons_append];gi_wp2_with (refine⟨trivial,?_⟩;gi_at_call 66;refine (callsIn_wide.2 (Ze _ _ _ _)).mono ?_;rintro e w2 ⟨rfl,rfl⟩)
 obtain⟨hb,hhb⟩:∃ hb,hb=w.heap.size:=⟨_,rfl⟩
 obtain⟨wq,hwq⟩:∃ wq,wq=(((w.alloc (.cells #[.func (.func 29) #[] #[]] 68)).alloc (.cells #[.int .i64 0] 3)).alloc (.cells #[.slice A n c] 29)).alloc (.cells #[.func (.func 28) #[] #[]] 67):=⟨_,rfl⟩
 have hbq:Bel w wq:=by rw[hwq];exact ((((Bel.refl w).alloc _).alloc _).alloc _).alloc _
 have hsq:wq.heap.size=hb+4:=by rw[hwq,hhb];simp
 have hq4:=blk4 w (.cells #[.func (.func 29) #[] #[]] 68) (.cells #[.int .i64 0] 3) (.cells #[.slice A n c] 29) (.cells #[.func (.func 28) #[] #[]] 67);rw[<- hwq,<- hhb]at hq4;obtain⟨q0,q1,q2,q3⟩:=hq4;replace q0:Boxed wq hb 68 (.func (.func 29) #[] #[]):=q0
 replace q1:Boxed wq (hb+1) 3 (.int .i64 0):=q1
 replace q2:Boxed wq (hb+2) 29 (.slice A n c):=q2
 replace q3:Boxed wq (hb+3) 67 (.func (.func 28) #[] #[]):=q3
 rw[<- hwq,<- hhb];have HBQ:=hid hbq;have HHB:=hid hhb;have HSQ:=hid hsq;have Q0:=hid q0;have Q1:=hid q1;have Q2:=hid q2;have Q3:=hid q3;clear hwq hbq hsq q0 q1 q2 q3 hhb;refine zp (α:=Nd) (gf:=127) (lb:=#[.pointer (some ⟨hb+2,0,none⟩),.pointer (some ⟨hb+3,0,none⟩)]) rfl (fun args w=>by kernel_rfl) (encs:=encX) (Zf A n c (hb+2) (hb+3) f hsz) (fun _=>rfl)
  (fun pre x Y W W' h hs hk=>⟨h.1,h.2.keep (fun j hj=>hk j hj.1 hj.2) (fun j hj=>⟨Nat.lt_of_lt_of_le hj.1 hs,hj.2⟩)⟩)
  (fun xs Y W=>(∀ k,Y k↔(k=hb∨k=hb+1))/\Boxed W hb 68 (.func (.func 29) #[] #[])/\Boxed W (hb+1) 3 (.int .i64 (vmax hdE 0 (xs.map Nd.v):Nat))/\hb+4<=W.heap.size) (fun _ _ _=>False) ?_ (fun _ _ _ _ h _ _=>h)
  (Y0:=fun k=>k=hb∨k=hb+1) ?_ (fun k hk=>by have:=HSQ.out;omega) ⟨fun _=>Iff.rfl,Q0.out,Q1.out,by rw[HSQ.out];exact Nat.le_refl _⟩
  (fun x bx=>{ tmps:=#[.slice A n c,.func (.func 28) #[] #[],.func (.func 29) #[] #[],undef,undef,.pointer (some ⟨hb,0,none⟩),(0:Int),.pointer (some ⟨hb+1,0,none⟩),x.v.d,.pointer (some ⟨bx,0,none⟩),.slice A n c,.func (.func 28) #[] #[],.func (.func 127) #[] #[.pointer (some ⟨hb+2,0,none⟩),.pointer (some ⟨hb+3,0,none⟩)],x.v.d,.agg #[.int .u8 x.v.k,.string ⟨x.v.s.toArray⟩,x.v.n,x.p.a,x.p.l,x.p.c,.slice x.A x.v.kids.len x.ca,.slice x.B x.v.arms.len x.cb],undef,undef,undef,undef,undef,undef,undef,undef],defers:=[] })
  (fun x=> .cells #[.int .u8 x.v.k,.string ⟨x.v.s.toArray⟩,x.v.n,x.p.a,x.p.l,x.p.c,.slice x.A x.v.kids.len x.ca,.slice x.B x.v.arms.len x.cb] 32) ?_ ?_ ?_ ?_
 ·rintro s Y W W' ⟨h1,h2,h3,h4⟩ hs hk
  exact⟨h1,(hk hb ((h1 hb).2 (.inl rfl))).trans h2,(hk (hb+1) ((h1 _).2 (.inr rfl))).trans h3,Nat.le_trans h4 hs⟩
 ·rintro Y W hbW hY
  have hn:∀ j,Y j->hb<=j/\j≠hb+2/\j≠hb+3:=fun j hj=>by
   have:=HSQ.out;rcases hY j hj with (h | h) | h <;> omega
  refine⟨hbW.blk Q2.out,hbW.blk Q3.out,(HK.out.keep (fun j hj=>(HBQ.out.on hbW).block j hj)).wide (fun j hj=>⟨Nat.lt_of_lt_of_le hj (HBQ.out.on hbW).size,fun h=>?_⟩),fun h=>(hn _ h).2.1 rfl,fun h=>(hn _ h).2.2 rfl⟩;have h1:=(hn j h).1;have h2:j<w.heap.size:=hj;rw[HHB.out]at h1;omega
 ·rintro l x W K hK
  have HKK:=hid hK;clear hK;simp only[encX];gi_wp2
  exact HKK.out
 ·rintro l bx pre x Y W hbx1 hbx2 hob hYb ⟨Y',hYY,⟨suf,hpre⟩,hat⟩ hmv0 hYl ⟨hY,hi1,hi2,hi3⟩ hYs
  have hmem:x.v∈f.pre 0:=by rw[hpre];simp
  have hvs:=Tr.pre_size f 0 x.v hmem;have HVS:Hid (x.v.kids.size+x.v.arms.size<=1000000/\x.v.d<=1000000):=hid (by omega);have HAT:=hid hat;have HYS:=hid hYs;have HY:=hid hY;have HYY:=hid hYY;have HI1:=hid hi1;have HI2:=hid hi2;have HI3:=hid hi3;have HBX:=hid hbx1;obtain⟨m,hm⟩:∃ m,m=vmax hdE 0 (pre.map Nd.v):=⟨_,rfl⟩
  rw[<- hm]at HI2 hi2;have HM:=hid hm;obtain⟨xv,xp,xA,xca,xB,xcb⟩:=x;obtain⟨d,k,s,nn,kids,arms⟩:=xv;obtain⟨l1,hl1⟩:∃ l,l=kids.len:=⟨_,rfl⟩
  obtain⟨l2,hl2⟩:∃ l,l=arms.len:=⟨_,rfl⟩
  obtain⟨SS,hSS⟩:∃ S:ByteArray,S=⟨s.toArray⟩:=⟨_,rfl⟩
  obtain⟨hv,hhv⟩:∃ hv,hv=hdE ⟨d,k,s,nn,kids,arms⟩:=⟨_,rfl⟩
  have HHV:=hid hhv;simp only at HAT HVS hob ⊢;have HC:Hid (∀ W',Bel W W'->Calls Tryz.prog 29 #[.agg #[.int .u8 k,.string ⟨s.toArray⟩,nn,xp.a,xp.l,xp.c,.slice xA kids.len xca,.slice xB arms.len xcb]] W' fun e w'=>e=.returned (.int .i64 (hv:Int))/\Bel W' w'):=hid fun W' hW'=>by
   rw[hhv,show hdE ⟨d,k,s,nn,kids,arms⟩=1+arms.pdepth from rfl];rcases HAT.out.2 with ⟨_,ha⟩ | ⟨e | e,_⟩
   ·exact ZU k s nn xp xA xca xB xcb kids arms W' ((HAT.out.1.keep fun j hj=>hW'.block j hj.1).wide fun j hj=>Nat.lt_of_lt_of_le hj.1 hW'.size) ((ha.keep fun j hj=>hW'.block j hj.1).wide fun j hj=>Nat.lt_of_lt_of_le hj.1 hW'.size) HVS.out.1
   ·cases e
   ·cases e
  simp only[<- hl1,<- hl2,<- hSS]at hob HC ⊢;have hvb:hv<=1000001:=by rw[hhv];simp only[hdE];have:=arms.pdepth_le;have:=arms.depth_le;have:=HVS.out.1;omega
  have hdb:d<=1000000:=HVS.out.2;obtain⟨x0,x1,x2,x3,x4,x5,x6,x7⟩:=box8 hob;have eg:∀ args w,(callFunc 29 args).run Tryz.prog w=.ok (.enter 29 args) w:=fun args w=>by kernel_rfl
  have y0:=qa hbx2 x0;have y1:=qa hbx2 x1;have y2:=qa hbx2 x2;have y3:=qa hbx2 x3;have y4:=qa hbx2 x4;have y5:=qa hbx2 x5;have y6:=qa hbx2 x6;have y7:=qa hbx2 x7;have z0:=qa (by have:=HI3.out;omega) hi1.cell;have z1:=qa (by have:=HI3.out;omega) hi2.cell;clear hmv0 hpre hmem hvs hat hYs hY hYY hi1 hi2 hi3 hob hYl hbx1 hYb hl1 hl2 hSS hhv hm;gi_wp2_with fail
  refine zh 7 (by kernel_rfl) (by kernel_rfl) (fun ⟨_,_,h⟩=>h) (by kernel_rfl) ?_;simp only[List.take_succ_cons,List.take_zero,List.drop_succ_cons,List.drop_zero];repeat (go_big_quiet_step (exact (HC.out _ (Abw.bel _)).mono fun e w h=>⟨h.1,⟨_,(Abw.bel _).on h.2⟩,rfl⟩))
  refine wpQuiet_nil ?_;rintro w4 ⟨⟨w4,hb4⟩,rfl⟩;have HB4:=hid hb4;have f1:w4.cell? ⟨hb+1,0,none⟩=some (.int .i64 (m:Int)):=z1 ⟨w4,hb4⟩;have f2:w4.frozen? ⟨hb+1,0,none⟩=false:=Boxed.frozen (hb4.blk HI2.out);clear z0 z1 x0 x1 x2 x3 x4 x5 x6 x7 y0 y1 y2 y3 y4 y5 y6 y7;go_wp2_with fail
  have hB1:Boxed w4 hb 68 (.func (.func 29) #[] #[]):=HB4.out.blk HI1.out;have hB2:Boxed w4 (hb+1) 3 (.int .i64 (m:Int)):=HB4.out.blk HI2.out;refine⟨Mv.set_ (p:=⟨hb+1,0,none⟩) (Mv.of_bel HB4.out) (.inl ((HY.out (hb+1)).2 (.inr rfl))) _,Y,⟨HY.out,hB1.other (by omega) _,?_,by have:=HB4.out.size;have:=HI3.out;simp;omega⟩,fun j hj=>⟨by have:=HB4.out.size;have:=HYS.out j hj;simp;omega,.inl hj⟩⟩;have e:((vmax hdE 0 (List.map Nd.v (pre++[⟨⟨d,k,s,nn,kids,arms⟩,xp,xA,xca,xB,xcb⟩])):Nat):Int)=max (m:Int) ((d:Int)+(hv:Int)):=by
   rw[List.map_append,List.map_cons,List.map_nil,Q8,<- HM.out,<- HHV.out];simp only;omega
  rw[e];exact hB2.set _
 ·rintro D xs Y W hD hfin ⟨hY,hi1,hi2,hi3⟩ hmv hYs hDd hYD
  have HI:=hid hi2;have HFIN:=hid hfin;have HMV:=hid hmv;have HDD:=hid hDd;have HDL:=hid hD;have c1:=hi2.cell;clear hY hi1 hi2 hi3 hmv hYs hDd hYD hfin hD;simp only[Exit.inBlock,Exit.then];gi_wp2
  refine qz HDD.out (fun w' hmw=>⟨_,results_tmp rfl _ _ _,?_⟩);refine⟨?_,?_⟩
  ·have hk':=HK.out
   rw[show f.depth=vmax hdE 0 (xs.map Nd.v) by rw[HFIN.out,Tr.depth_pre f (hk'.isNods (by intro e;cases e)) hk'.ok]];rfl
  ·have h1:Mv (fun k=>k=hb∨k=hb+1) w W:=(Mv.of_bel HBQ.out).trans HMV.out (fun j hj=> .inl hj)
   have h2:Mv (fun _=>False) w W:=⟨h1.os,h1.tape,h1.output,h1.size,fun j hj _=>h1.block j hj (by have:=HHB.out;omega)⟩
   exact (h2.trans hmw (fun j hj=> .inr (by have:=HDL.out;have:=HBQ.out.size;omega))).bel
 ·rintro D xs Y W _ h
  exact h.elim
set_option maxHeartbeats 4000000
def tysL:List Fd->Tr
 | []=> .nil
 | x::xs=> .nod x.k x.s x.n x.p x.kids .nil (tysL xs)
theorem jo:∀ xs ys:List Fd,tysL (xs++ys)=(tysL xs).app (tysL ys)
 | [],_=>rfl
 | x::xs,ys=>by simp only[List.cons_append,tysL,Tr.app,jo xs ys]
theorem QI:∀ xs:List Fd,(tysL xs).len=xs.length
 | []=>rfl
 | x::xs=>by simp only[tysL,Tr.len,QI xs,List.length_cons]
def qm:List Cd->List Fd
 | []=>[]
 | c::cs=>c.fs++qm cs
theorem jg(cs:List Cd)(j:Nat)(c:Cd)(h:cs[j]?=some c):qm (cs.take (j+1))=qm (cs.take j)++c.fs:=by
 induction cs generalizing j with
 | nil=>cases h
 | cons x xs ih=>
  cases j with
  | zero=>simp only[List.getElem?_cons_zero,Option.some.injEq]at h;subst h;simp[qm]
  | succ j=>
   simp only[List.getElem?_cons_succ]at h;simp only[List.take_succ_cons,qm,ih j h,List.append_assoc]
theorem qa5(cs:List Cd)(j:Nat):(qm (cs.take j)).length<=(qm cs).length:=by
 induction cs generalizing j with
 | nil=>simp
 | cons x xs ih=>
  cases j with
  | zero=>simp[qm]
  | succ j=>have:=ih j;simp only[List.take_succ_cons,qm,List.length_append];omega
theorem Zs(kd:Int)(nm:List UInt8)(q:Pl)(PA:Option Addr)(pl pc:Nat)(CA:Option Addr)(cl cc:Nat)(rc:Bool)(k:Int)(s:List UInt8)(n:Int)(p:Pl)(A:Option Addr)(kl c:Nat)(B:Option Addr)(al bc:Nat)(cs:List Cd)(w:World)(hc:RowOf 5 CdAt w (OldT w) CA cl cc cs)(hcl:cl<=1000000)(hfl:(qm cs).length<=1000000) :
  Calls Tryz.prog 31 #[.agg #[.int .u8 kd,.string ⟨nm.toArray⟩,q.a,q.l,q.c,.slice PA pl pc,.slice CA cl cc,.bool rc,.int .u8 k,.string ⟨s.toArray⟩,n,p.a,p.l,p.c,.slice A kl c,.slice B al bc]] w (jp w (OldT w) .ty (tysL (qm cs))):=by
 have HC:=hid hc;have HFL:=hid hfl;have HCL:Hid (cl=cs.length):=hid hc.1;clear hc hfl;obtain⟨S,hS⟩:∃ S:ByteArray,S=⟨s.toArray⟩:=⟨_,rfl⟩
 obtain⟨NM,hNM⟩:∃ S:ByteArray,S=⟨nm.toArray⟩:=⟨_,rfl⟩
 rw[<- hS,<- hNM];clear hS hNM;obtain⟨i0,hi0,hz0,hz1,hz2⟩:=info_parts qhf;have hb1:Bel w (w.alloc (.cells #[.int .u8 kd,NM,q.a,q.l,q.c,.slice PA pl pc,.slice CA cl cc,.bool rc,.int .u8 k,S,n,p.a,p.l,p.c,.slice A kl c,.slice B al bc] 34)):=(Bel.refl w).alloc _;have hsz:(w.alloc (.cells #[.int .u8 kd,NM,q.a,q.l,q.c,.slice PA pl pc,.slice CA cl cc,.bool rc,.int .u8 k,S,n,p.a,p.l,p.c,.slice A kl c,.slice B al bc] 34)).heap.size=w.heap.size+1:=by simp
 have HB1:=hid hb1;have HSZ:=hid hsz;clear hb1 hsz;go_enter Tryz.func31,Tryz.ntmps31
 go_wp2_with fail
 obtain⟨bx,hbx⟩:∃ bx,bx=w.heap.size:=⟨_,rfl⟩
 have HBX:=hid hbx;clear hbx;go_loopw [3,11] (fun v i wr=>∃ (j m:Nat) (A3:Option Addr) (c3:Nat) (us:List Value),j<=cl/\v=.slice A3 m c3/\i=.int .i64 (j:Int)/\Hid (m=(qm (cs.take j)).length)/\Hid (wr.ownsRow (bx+1) 59 7 (.slice A3 m c3) m us)/\Hid (Tells w (OldT w) .ty (tysL (qm (cs.take j))) us)/\Hid (Bel w wr)/\Hid (w.heap.size+1<=wr.heap.size)) (fun _ i _=>cl-(intOf i).toNat)
 case atStart=>exact⟨0,0,none,0,[],Nat.zero_le _,rfl,rfl,hid (by simp[qm]),hid (World.ownsRow_nil _ _ _ _),hid (by rw[List.take_zero];exact Tells.nil),HB1,hid (by rw[HSZ.out];exact Nat.le_refl _)⟩
 case round=>
  obtain⟨j,m,A3,c3,us,hj,rfl,rfl,HM,HO,HT,HB,HSB⟩:=hrel;by_cases hlt:j<cl
  ·obtain⟨ub,uo,eB,hob,hfo⟩:=HC.out.2.2 (by omega)
   subst eB;obtain⟨x,hx⟩:∃ x,cs[j]?=some x:=⟨_,List.getElem?_eq_getElem (by rw[<- HCL.out];exact hlt)⟩
   obtain⟨y0,y1,y2,y3,A',ca',y4,hff⟩:=hfo j x hx;obtain⟨cn,cp,fs⟩:=x;have HX:=hid hx;obtain⟨G,hG⟩:∃ G,G=qm (cs.take j):=⟨_,rfl⟩
   have HG1:Hid (qm (cs.take (j+1))=G++fs):=hid (by rw[hG];exact jg cs j _ hx);have HGL:Hid (G.length+fs.length<=1000000):=hid (by
    have h1:=HG1.out;have h2:=qa5 cs (j+1);rw[h1,List.length_append]at h2;have:=HFL.out;omega)
   rw[<- hG]at HM HT;simp only[]at y0 y1 y2 y3 y4 hff;obtain⟨fl,hfl⟩:∃ l,l=fs.length:=⟨_,rfl⟩
   have HFN:=hid hfl;rw[<- hfl]at y4 hff;obtain⟨CN,hCN⟩:∃ S:ByteArray,S=⟨cn.toArray⟩:=⟨_,rfl⟩
   rw[<- hCN]at y0;have HF:Hid (RowOf 8 FdAt w (OldT w) A' fl ca' fs):=hid hff;have hcw:=(Bel.cells HB.out).1;replace y0:=(hcw ub _ hob).trans y0
   replace y1:=(hcw ub _ hob).trans y1
   replace y2:=(hcw ub _ hob).trans y2
   replace y3:=(hcw ub _ hob).trans y3
   replace y4:=(hcw ub _ hob).trans y4
   have i1:(0:Int)<=(j:Int):=by omega
   have i2:(j:Int)<(cl:Int):=by omega
   have hob':ub<wr.heap.size:=Nat.lt_of_lt_of_le hob HB.out.size;have hf8:fl<=1000000:=by have:=HGL.out;omega
   have HLT:=hid hlt;clear hcw hfo hob hx hG hfl hCN hff;go_wp2_with fail
   clear y0 y1 y2 y3 y4;have hbw:Bel wr (wr.alloc (.cells #[.string CN,cp.a,cp.l,cp.c,.slice A' fl ca'] 64)):=(Bel.refl wr).alloc _;have HBW:=hid hbw;have HSW:Hid (wr.heap.size<=(wr.alloc (.cells #[.string CN,cp.a,cp.l,cp.c,.slice A' fl ca'] 64)).heap.size):=hid (by simp);clear hbw;go_loopw [3,18] (fun v i wi=>∃ (h m:Nat) (A3:Option Addr) (c3:Nat) (us:List Value),h<=fl/\v=.slice A3 m c3/\i=.int .i64 (h:Int)/\Hid (m=G.length+h)/\Hid (wi.ownsRow (bx+1) 59 7 (.slice A3 m c3) m us)/\Hid (Tells w (OldT w) .ty (tysL (G++fs.take h)) us)/\Hid (Bel w wi)/\Hid (w.heap.size+1<=wi.heap.size)) (fun _ i _=>fl-(intOf i).toNat)
   case atStart=>exact⟨0,m,A3,c3,us,Nat.zero_le _,rfl,rfl,HM,hid (HO.out.alloc _),hid (by rw[List.take_zero,List.append_nil];exact HT.out),hid (HB.out.on HBW.out),hid (by have:=HSW.out;have:=HSB.out;omega)⟩
   case round=>
    obtain⟨h,m,A3,c3,us,hh,rfl,rfl,HMI,HOI,HTI,HBI,HSI⟩:=hrel;by_cases hlt2:h<fl
    ·obtain⟨ub2,uo2,eB2,hob2,hfo2⟩:=HF.out.2.2 (by omega)
     subst eB2;obtain⟨y,hy⟩:∃ y,fs[h]?=some y:=⟨_,List.getElem?_eq_getElem (by rw[<- HFN.out];exact hlt2)⟩
     obtain⟨A4,c4,hkk,z0,z1,z2,z3,z4,z5,z6,z7⟩:=(hfo2 h y hy).cells;obtain⟨fm,fk,fs',fn,fp,fkids⟩:=y;simp only[]at hkk z0 z1 z2 z3 z4 z5 z6 z7;have HT3:Hid (Tells w (OldT w) .ty (tysL (G++fs.take (h+1))) (us++nodV .ty fk fs' fn fp A4 fkids.len c4 none 0 0)):=hid (by
      rw[List.take_add_one,hy,Option.toList_some,<- List.append_assoc,jo];exact HTI.out.app (Tells.one (by intro e;cases e) hkk (.inr ⟨.inr rfl,rfl⟩)))
     have hcw:=(Bel.cells HBI.out).1;replace z0:=(hcw ub2 _ hob2).trans z0
     replace z1:=(hcw ub2 _ hob2).trans z1
     replace z2:=(hcw ub2 _ hob2).trans z2
     replace z3:=(hcw ub2 _ hob2).trans z3
     replace z4:=(hcw ub2 _ hob2).trans z4
     replace z5:=(hcw ub2 _ hob2).trans z5
     replace z6:=(hcw ub2 _ hob2).trans z6
     replace z7:=(hcw ub2 _ hob2).trans z7
     have hob2':ub2<wr.heap.size:=Nat.lt_of_lt_of_le hob2 HBI.out.size;obtain⟨l3,hl3⟩:∃ l,l=fkids.len:=⟨_,rfl⟩
     rw[<- hl3]at z7 HT3;obtain⟨FJ,hFS⟩:∃ S:ByteArray,S=⟨fs'.toArray⟩:=⟨_,rfl⟩
     rw[<- hFS]at z2;have HT4:Hid (Tells w (OldT w) .ty (tysL (G++fs.take (h+1))) (us++[.int .u8 fk,.string FJ,.int .u8 fn,.int .i64 fp.a,.int .i64 fp.l,.int .i64 fp.c,.slice A4 l3 c4])):=hid (by rw[hFS];exact HT3.out);have j1:(0:Int)<=(h:Int):=by omega
     have j2:(h:Int)<(fl:Int):=by omega
     have hm9:m<=1000000:=by have:=HMI.out;have:=HGL.out;have:=HFN.out;omega
     have HLT2:=hid hlt2;clear hcw hob2 hfo2 hy hkk HT3 hl3 hFS HTI;go_wp2_with (at_builtin;refine jd ?_)
     unfold zT;refine wpList_append_own_at _ rfl _ _ 57 rfl (bx+1) 59 i0 _ 7 80 Tryz.underlying57 hi0 hz0 hz1 hz2 rfl (by decide) (.slice A3 m c3) m _ rfl ((HOI.out.alloc _).alloc _) ⟨wr.heap.size+1,0,none⟩ 1 1 [.int .u8 fk,FJ,.int .u8 fn,fp.a,fp.l,fp.c,.slice A4 l3 c4] rfl rfl (fun j u hu=>by
      rw[Addr.add_lit,Nat.zero_add];have h:=zk (wr.alloc (.cells #[.int .u8 fm,.int .u8 fk,FJ,.int .u8 fn,fp.a,fp.l,fp.c,.slice A4 l3 c4] 61)) _ 59 j u hu;rw[World.size_alloc]at h;exact h) (by simp[Value.oneCell']) (by unfold maxLen;omega) (by omega) (by simp;have:=HBX.out;have:=HBI.out.size;have:=HSI.out;omega) ?_
     intro v' w5 hown5 hg5 _ hat5;obtain⟨g5,c5,rfl⟩:=zN hown5;have hb5:Bel w w5:=Below.grown ((HBI.out.alloc _).alloc _) hg5 (by simp;have:=HBI.out.size;omega) (fun x hx=>by have h:=(HOI.out.lt x hx).1;have:=HBX.out;omega);have HB5:=hid hb5;have HSB5:Hid (w.heap.size+1<=w5.heap.size):=hid (by have h:=hg5.size;simp at h;have:=HSI.out;omega);have HO5:=hid hown5;have HM5:Hid (m+1=G.length+(h+1)):=hid (by have:=HMI.out;omega);clear hown5 hg5 hat5 hb5 z0 z1 z2 z3 z4 z5 z6 z7 HOI HBI;go_wp2_with fail
     go_roundw
     case rel=>exact⟨h+1,m+1,_,c5,_,HLT2.out,rfl,by go_num,HM5,HO5,HT4,HB5,HSB5⟩
     case measure=>have:=HLT2.out;simp[intOf];omega
    ·obtain rfl:h=fl:=by omega
     have HMO:Hid (m=(qm (cs.take (j+1))).length):=hid (by rw[HG1.out,List.length_append,HMI.out,HFN.out]);have HTO:Hid (Tells w (OldT w) .ty (tysL (qm (cs.take (j+1)))) us):=hid (by
      have h:=HTI.out;rw[HFN.out,List.take_length]at h;rw[HG1.out];exact h)
     go_wp2_with fail
     go_roundw
     case rel=>exact⟨j+1,m,A3,c3,us,HLT.out,rfl,by go_num,HMO,HOI,HTO,HBI,HSI⟩
     case measure=>have:=HLT.out;simp[intOf];omega
  ·obtain rfl:j=cl:=by omega
   go_wp2_with fail
   go_ret
   have hl:m=(tysL (qm cs)).len:=by rw[HM.out,HCL.out,List.take_length,QI]
   have ht:=HT.out;rw[HCL.out,List.take_length]at ht;have ho:=HO.out;rw[hl]at ho ⊢;exact⟨A3,c3,rfl,HB.out,ht.row HB.out (fun _ h=>h) (by have:=HBX.out;omega) ho⟩
set_option maxHeartbeats 4000000
def zV(kd:Int)(e:Tr)(cs:List Cd):Nat:=if kd=2 then e.depth else if kd=1 then (tysL (qm cs)).depth else 0
def DepQ(r:Nat)(w:World):Ending->World->Prop:=fun e w'=>e=.returned (.int .i64 (r:Int))/\Bel w w'
theorem zm(kd:Int)(nm:List UInt8)(q:Pl)(PA:Option Addr)(pl pc:Nat)(CA:Option Addr)(cl cc:Nat)(rc:Bool)(k:Int)(s:List UInt8)(n:Int)(p:Pl)(A:Option Addr)(c:Nat)(B:Option Addr)(bc:Nat)(kids arms:Tr)(cs:List Cd)(w:World)(hk:KidsTr w (OldT w) .ex A kids.len c kids)(ha:KidsTr w (OldT w) .arms B arms.len bc arms)(hsz:kids.size+arms.size<=900000)(hc:RowOf 5 CdAt w (OldT w) CA cl cc cs)(hcl:cl<=1000000)(hfl:(tysL (qm cs)).size<=1000000) :
  Calls Tryz.prog 9 #[.agg #[.int .u8 kd,.string ⟨nm.toArray⟩,q.a,q.l,q.c,.slice PA pl pc,.slice CA cl cc,.bool rc,.int .u8 k,.string ⟨s.toArray⟩,n,p.a,p.l,p.c,.slice A kids.len c,.slice B arms.len bc]] w (DepQ (zV kd (.nod k s n p kids arms .nil) cs) w):=by
 have HX:Hid (∀ (g:Nat) (t:TypeId) (W:World),Bel w W->W.heap[g]?=some (.cells #[.int .u8 k,.string ⟨s.toArray⟩,n,p.a,p.l,p.c,.slice A kids.len c,.slice B arms.len bc] t (0,0)) →
   Calls Tryz.prog 27 #[.slice (some ⟨g,0,none⟩) 1 1,.func (.func 28) #[] #[],.func (.func 29) #[] #[]] W (DepQ (Tr.depth (.nod k s n p kids arms .nil)) W)):=hid fun g t W hW h1=>by
  have e1:=zQ (sh:= .ex) (by intro e;cases e) hk (.inl ⟨rfl,ha⟩) hW h1;exact qbZ _ 1 1 _ W e1 (by simp only[Tr.size];omega)
 have HF:Hid (∀ W,Bel w W->Calls Tryz.prog 31 #[.agg #[.int .u8 kd,.string ⟨nm.toArray⟩,q.a,q.l,q.c,.slice PA pl pc,.slice CA cl cc,.bool rc,.int .u8 k,.string ⟨s.toArray⟩,n,p.a,p.l,p.c,.slice A kids.len c,.slice B arms.len bc]] W (jp W (OldT W) .ty (tysL (qm cs)))):=hid fun W hW=>Zs kd nm q PA pl pc CA cl cc rc k s n p A kids.len c B arms.len bc cs W (hc.bel qv hW) hcl (by have:=(tysL (qm cs)).len_le;rw[QI]at this;omega);have HT:Hid (∀ W A c,KidsTr W (OldT W) .ty A (tysL (qm cs)).len c (tysL (qm cs))->Calls Tryz.prog 30 #[.slice A (tysL (qm cs)).len c,.func (.func 32) #[] #[],.func (.func 33) #[] #[]] W (DepQ (tysL (qm cs)).depth W)):=hid fun W A c h=>qbY A _ c _ W h hfl;unfold zV;obtain⟨dx,hdx⟩:∃ r,r=Tr.depth (.nod k s n p kids arms .nil):=⟨_,rfl⟩
 obtain⟨F,hF⟩:∃ r,r=tysL (qm cs):=⟨_,rfl⟩
 rw[<- hF]at HF HT ⊢;rw[<- hdx]at HX ⊢;obtain⟨kl,hl1⟩:∃ l,l=kids.len:=⟨_,rfl⟩
 obtain⟨al,hl3⟩:∃ l,l=arms.len:=⟨_,rfl⟩
 obtain⟨S,hS⟩:∃ S:ByteArray,S=⟨s.toArray⟩:=⟨_,rfl⟩
 obtain⟨NM,hNM⟩:∃ S:ByteArray,S=⟨nm.toArray⟩:=⟨_,rfl⟩
 rw[<- hl1,<- hl3,<- hS]at HX;rw[<- hl1,<- hl3,<- hS,<- hNM]at HF ⊢;clear hk ha hsz hc hcl hfl hdx hF hl1 hl3 hS hNM;have hb1:Bel w (w.alloc (.cells #[.int .u8 kd,NM,q.a,q.l,q.c,.slice PA pl pc,.slice CA cl cc,.bool rc,.int .u8 k,S,n,p.a,p.l,p.c,.slice A kl c,.slice B al bc] 34)):=(Bel.refl w).alloc _;have HB1:=hid hb1;clear hb1;by_cases h2:kd=2
 ·subst h2
  rw[if_pos rfl];have q2:=blk2 w (.cells #[.int .u8 2,NM,q.a,q.l,q.c,.slice PA pl pc,.slice CA cl cc,.bool rc,.int .u8 k,S,n,p.a,p.l,p.c,.slice A kl c,.slice B al bc] 34) (.cells #[.int .u8 k,S,n,p.a,p.l,p.c,.slice A kl c,.slice B al bc] 32);have HC:=hid (HX.out (w.heap.size+1) _ _ (HB1.out.alloc _) q2.2);have HB2:=hid (HB1.out.alloc (.cells #[.int .u8 k,S,n,p.a,p.l,p.c,.slice A kl c,.slice B al bc] 32));clear q2 HX HF HT HB1;go_enter Tryz.func9,Tryz.ntmps9
  go_wp2_with fail
  refine HC.out.mono ?_;rintro e w5 ⟨rfl,hb5⟩;have HB5:=hid (HB2.out.on hb5);clear hb5;go_wp2_with fail
  go_ret
  exact⟨rfl,HB5.out⟩
 rw[if_neg h2];have k2:(kd==2)=false:=by simpa using h2
 clear HX h2;by_cases h1:kd=1
 ·subst h1
  rw[if_pos rfl];go_enter Tryz.func9,Tryz.ntmps9
  go_wp2_with fail
  refine (HF.out _ HB1.out).mono ?_;rintro e w5 ⟨A5,c5,rfl,hb5,hr5⟩;have HB5:=hid (HB1.out.on hb5);have HR5:=hid (hr5.wide (fun j hj=>by rcases hj with h | h;exact Nat.lt_of_lt_of_le h hb5.size;exact h.2));clear hb5 hr5;go_wp2_with fail
  refine (HT.out _ A5 c5 HR5.out).mono ?_;rintro e w6 ⟨rfl,hb6⟩;have HB6:=hid (HB5.out.on hb6);clear hb6;go_wp2_with fail
  go_ret
  exact⟨rfl,HB6.out⟩
 rw[if_neg h1];have k1:(kd==1)=false:=by simpa using h1
 clear HF HT h1;go_enter Tryz.func9,Tryz.ntmps9
 go_wp2_with fail
 go_ret
 exact⟨rfl,HB1.out⟩
end Go.Proofs.YtlmmaoobembadaaGreatDoor.Mu
