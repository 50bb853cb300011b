import Derived.Shelf.Abstract
import Derived.OwnWalkIn
import Derived.TacticsInMore
import Derived.LoopNIn
import Derived.LoopIn
import Derived.WalkSmall
import Derived.LoopTactic
import Derived.Maps.OwnIn
import Derived.Test.YtfpoelklhekfaaaGreatDoorQag
import Derived.Test.YtfpoelklhekfaaaGreatDoorQav
open Go.Lib (hid)
namespace Go.Proofs.YtfpoelklhekfaaaGreatDoor.Mu
set_option maxHeartbeats 4000000
open Go Go.RowKit Go.Shelf
attribute [local go_sem] Oper.semAt_some
set_option linter.unusedVariables false
set_option maxRecDepth 100000
def encT(x:Nd):Array Value:=#[.int .i64 x.v.d,.agg #[.int .u8 x.v.k,.string ⟨x.v.s.toArray⟩,.int .u8 x.v.n,.int .i64 x.p.a,.int .i64 x.p.l,.int .i64 x.p.c,.slice x.A x.v.kids.len x.ca]]
theorem qcZ:(Tryz.prog.info? 48).map (fun i=>(i.zero,i.size,i.bytes))=some (some (.slice none 0 0),1,24):=by kernel_rfl
theorem Zd(A0:Option Addr)(n0 c0 lb kb:Nat)(f0:Tr)(hsz:f0.size<=1000000) :
  SeqL Tryz.prog 118 #[.pointer (some ⟨lb,0,none⟩),.pointer (some ⟨kb,0,none⟩)] encT
   (fun Y W=>W.heap[lb]?=some (.cells #[.slice A0 n0 c0] 48 (0,0))/\W.heap[kb]?=some (.cells #[.func (.func 38) #[] #[]] 102 (0,0))/\KidsTr W (fun j=>j<W.heap.size/\¬ Y j) .ty A0 n0 c0 f0/\¬ Y lb/\¬ Y kb)
   (fun pre x Y W=>(∃ suf,f0.pre 0=pre.map Nd.v++x.v::suf)/\x.at_ W (fun j=>j<W.heap.size/\¬ Y j) .ty)
   (fun xs=>xs.map Nd.v=f0.pre 0):=by
 intro l J Jx Y0 W0 hok hY0 hJ hJx hY h0;obtain⟨hlb,hkb,hkt,hnl,hnk⟩:=hok;have HLB:=hid hlb;have HKB:=hid hkb;have HKT:=hid hkt;have HNL:=hid (And.intro hnl hnk);have HY0:=hid hY0;have HJ:=hid hJ;have HY:=hid hY;have H0:=hid h0;have z0:=jH hlb;obtain⟨i0,hi0,hz0,hz1,hz2⟩:=info_parts qcZ;have HL0:Hid (n0=f0.len):=hid hkt.1;clear hlb hkb hkt hnl hnk hY0 hJ hJx hY h0;refine (callsIn_wide (n:=6)).1 ?_;refine callsIn_of_wp Tryz.func118 rfl trivial ?_ rfl;simp only[Tryz.ntmps118,List.size_toArray,List.length_cons,List.length_nil,Nat.reduceAdd,Nat.reduceSub,Array.replicate_succ,Array.replicate_zero,List.push_toArray,List.append_toArray,List.nil_append,List.cons_append];gi_wp2
 obtain⟨base,hbase⟩:∃ base,base=W0.heap.size:=⟨_,rfl⟩
 obtain⟨w1,hw1⟩:∃ w1,w1=W0.alloc (.cells #[.slice A0 n0 c0] 48):=⟨_,rfl⟩
 have hb1:Bel W0 w1:=by rw[hw1];exact (Bel.refl W0).alloc _
 have hq1:w1.heap[base]?=some (.cells #[.slice A0 n0 c0] 48 (0,0)):=by rw[hw1,hbase];exact blk1 W0 _
 have hs1:w1.heap.size=base+1:=by rw[hw1,hbase];simp
 rw[<- hw1,<- hbase];have hlt:lb<base/\kb<base:=by rw[hbase];exact⟨(Array.getElem?_eq_some_iff.1 HLB.out).1,(Array.getElem?_eq_some_iff.1 HKB.out).1⟩
 have HST:Hid (WSt 48 48 102 38 .ty f0 J lb kb base (.slice A0 n0 c0) Y0 W0 (some ⟨base,0,none⟩) 1 1 [⟨A0,c0,f0⟩] [] Y0 w1):=hid (by
  refine⟨rfl,⟨rfl,.inr ⟨base,1,_,rfl,Nat.le_refl _,hq1,Nat.le_refl _,by unfold maxLen;omega,rfl,?_⟩⟩,fun j o e hy=>?_,hb1.blk HLB.out,hb1.blk HKB.out,hlt,HNL.out,?_,HJ.out _ _ _ _ H0.out hb1.size (fun j hj=>hb1.block j (HY0.out j hj)),fun j hj=>⟨Nat.lt_of_lt_of_le (HY0.out j hj) hb1.size,.inl hj⟩,Mv.of_bel hb1,by omega,?_⟩
  ·simp[itV,It.val,<- HL0.out]
  ·cases e;have:=HY0.out _ hy;omega
  ·intro x hx
   simp at hx;subst hx;have hk:=HKT.out;rw[HL0.out]at hk;refine (hk.keep fun j hj=>hb1.block j hj.1).wide fun j hj=>⟨Nat.lt_of_lt_of_le hj.1 hb1.size,hj.2,fun o e=>?_⟩
   cases e
   have:=hj.1;omega
  ·simp[todo])
 have HBS:=hid hbase;clear hb1 hq1 hs1 hw1 hbase z0 hlt HLB HKB HKT H0 HNL HL0;gi_loopw [4] (fun v wr=>∃ k:Nat,∃ S pre Y A cc m,v=.slice A m cc/\Hid (WSt 48 48 102 38 .ty f0 J lb kb base (.slice A0 n0 c0) Y0 W0 A cc m S pre Y wr)/\k=msS S) (fun v wr=>leastOf (fun k:Nat=>∃ S pre Y A cc m,v=.slice A m cc/\Hid (WSt 48 48 102 38 .ty f0 J lb kb base (.slice A0 n0 c0) Y0 W0 A cc m S pre Y wr)/\k=msS S))
 case atStart=>exact⟨_,_,_,_,_,_,_,rfl,HST,rfl⟩
 case round=>
  clear HST;obtain⟨gk,hgk⟩:∃ gk,gk=leastOf (fun k:Nat=>∃ S pre Y A cc m,u4=.slice A m cc/\Hid (WSt 48 48 102 38 .ty f0 J lb kb base (.slice A0 n0 c0) Y0 W0 A cc m S pre Y wr)/\k=msS S):=⟨_,rfl⟩
  have hmin:=(leastOf_spec hrel).1;rw[<- hgk]at hmin;clear hrel;obtain⟨S,pre,Y,A,cc,m,rfl,HW,hms⟩:=hmin;have HGK:=hid hgk;have HMS:=hid hms;clear hgk hms;cases S with
  | nil=>
   have hm:m=0:=HW.out.len;subst hm;gi_wp2
   go_end0
   exact⟨⟨_,rfl⟩,HW.out.mv,pre,Y,HW.out.yl,.inl ⟨by have h:=HW.out.what;simpa [todo] using h.symm,HW.out.j⟩⟩
  | cons it S=>
   obtain⟨mm,hmm⟩:∃ mm,mm=S.length:=⟨_,rfl⟩
   have hm:m=mm+1:=by rw[hmm];exact HW.out.len
   subst hm;obtain⟨g,eA,hbg,hgl,hcc,hcm,hcell,hfz,hrow⟩:=qaC hmm HW.out.row;subst eA;obtain⟨fA,fc,f⟩:=it;obtain⟨fl,hfl⟩:∃ fl,fl=f.len:=⟨_,rfl⟩
   simp only[It.val,<- hfl]at hcell;have hm63:mm+1<=9223372036854775807:=by unfold maxLen at hcm;omega
   have i0':(0:Int)<=(mm:Int):=by omega
   have i1:(mm:Int)<(mm:Int)+1:=by omega
   have i4:(mm:Int)<=(cc:Int):=by omega
   have HMM:=hid hmm;have HFL:=hid hfl;have HROW:=hid hrow;clear hmm hfl hrow hcm;by_cases hf0:fl=0
   ·subst hf0
    obtain rfl:=Tr.len_nil f HFL.out.symm;have HW':Hid (WSt 48 48 102 38 .ty f0 J lb kb base (.slice A0 n0 c0) Y0 W0 (some ⟨g,0,none⟩) cc mm S pre Y wr):=hid (by
     have h:=HW.out;refine⟨HMM.out,HROW.out,h.ny,h.bl,h.bk,h.lt,h.nl,fun x hx=>h.its x (List.mem_cons_of_mem _ hx),h.j,h.yl,h.mv,h.bs,?_⟩;have e:=h.what;simpa [todo,Tr.pre] using e)
    clear hbg HW HROW;gi_wp2
    go_roundw
    case rel=>exact⟨_,S,pre,Y,_,_,_,rfl,HW',rfl⟩
    case measure=>
     refine Nat.lt_of_le_of_lt ((leastOf_spec ⟨_,S,pre,Y,_,_,_,rfl,HW',rfl⟩).2 (msS S) ⟨S,pre,Y,_,_,_,rfl,HW',rfl⟩) ?_;rw[<- HGK.out,HMS.out];simp only[msS];omega
   ·have hkt:=HW.out.its _ List.mem_cons_self
    obtain⟨k,s,n,p,kids,arms,rest,rfl⟩:∃ k s n p kids arms rest,f=.nod k s n p kids arms rest:=by
     have hn:=hkt.isNods (by intro e;cases e);cases f with
     | nil=>exact absurd HFL.out hf0
     | nod k s n p kids arms rest=>exact⟨_,_,_,_,_,_,_,rfl⟩
     | arm=>exact hn.elim
    obtain⟨b,o,eF,hob,hto⟩:=hkt.2.2 (by simp[Tr.len]);simp only at eF;subst eF;obtain⟨A',ca',B',cb',hc,hk2,ha2,hr2⟩:=hto.parts;have y0:=hc 0 _ rfl;have y1:=hc 1 _ rfl;have y2:=hc 2 _ rfl;have y3:=hc 3 _ rfl;have y4:=hc 4 _ rfl;have y5:=hc 5 _ rfl;have y6:=hc 6 _ rfl;simp only[Nat.add_zero]at y0;obtain⟨rl,hrl⟩:∃ rl,rl=rest.len:=⟨_,rfl⟩
    have hfl2:fl=rl+1:=by rw[hrl];exact HFL.out
    subst hfl2;have hbgn:b≠g:=fun e=>hob.2.2 0 (by rw[e]);have hbl:b<wr.heap.size:=hob.1;have hfcl:rl+1<=fc:=by have:=hkt.2.1;rw[<- HFL.out]at this;exact this
    have HKT:=hid hkt;have HP:=hid (And.intro hk2 (And.intro ha2 hr2));have HOB:=hid hob;have HRL:=hid hrl;have HBG:=hid hbg;obtain⟨l1,hl1⟩:∃ l,l=kids.len:=⟨_,rfl⟩
    obtain⟨l2,hl2⟩:∃ l,l=arms.len:=⟨_,rfl⟩
    obtain⟨SS,hSS⟩:∃ S:ByteArray,S=⟨s.toArray⟩:=⟨_,rfl⟩
    rw[<- hSS]at y1;rw[<- hl1]at y6;have hl2':=hl2;try rw[<- hl2]at y7
    clear hl2';have HL1:=hid hl1;have HL2:=hid hl2;have HSS:=hid hSS;have j1:(0:Int)<((rl+1:Nat):Int):=by omega
    have j2:((rl:Int)+1==0)=false:=by simp;omega
    clear hc hkt hto hk2 ha2 hr2 hob hrl hl1 hl2 hSS hbg hf0;simp only[Sh.kd]at y2;obtain⟨x,hxd⟩:∃ x:Nd,x=⟨⟨mm,k,s,n,kids,arms⟩,p,A',ca',B',cb'⟩:=⟨_,rfl⟩
    have hxv:x.v=⟨mm,k,s,n,kids,arms⟩:=by rw[hxd]
    have henc:encT x=#[.int .i64 (mm:Int),.agg #[.int .u8 k,SS,.int .u8 n,p.a,p.l,p.c,.slice A' l1 ca']]:=by rw[hxd,HL1.out,HSS.out];rfl
    have hxat:x.at_ wr (OkI wr Y (some ⟨g,0,none⟩)) .ty:=by rw[hxd];exact⟨HP.out.1,HP.out.2.1⟩
    have HX:=hid (And.intro hxv hxat);have HXD:=hid hxd;have hmem:x.v∈f0.pre 0:=by
     rw[HW.out.what,hxv];simp[todo,Tr.pre,<- HMM.out]
    have hvs:=Tr.pre_size f0 0 x.v hmem;rw[hxv]at hvs;simp only at hvs;have HVS:Hid (kids.size+arms.size<=1000000/\mm<=1000000):=hid (by omega);clear hmem hvs;have HENC:=hid henc;clear hxd hxv henc hxat;by_cases hfc1:fc=1
    ·subst hfc1
     obtain rfl:rl=0:=by omega
     have hres:KidsTr wr (OkI wr Y (some ⟨g,0,none⟩)) .ty (some ⟨b,o,none⟩) rest.len 0 rest:=⟨rfl,by rw[<- HRL.out];exact Nat.le_refl _,fun h=>absurd h (by rw[<- HRL.out];omega)⟩
     have HRES:=hid hres;obtain⟨W2,hW2⟩:∃ W2,W2=(wr.setCell ⟨g,mm,none⟩ (.slice (some ⟨b,o,none⟩) rest.len 0)).alloc (.cells #[.int .u8 k,SS,.int .u8 n,p.a,p.l,p.c,.slice A' l1 ca'] 50):=⟨_,rfl⟩
     obtain⟨hpre,hj2,hyl2⟩:=WSt.hand HJ.out HW.out HMM.out rfl HX.out.1 HX.out.2 hW2;obtain⟨q1,q2,q3,q4⟩:=HW.out.sel hW2;have HQ3:=hid q3;obtain⟨fn,tmps,assign,body,hy,hR⟩:=HY.out pre x Y W2 hpre (HW.out.mv.trans q4 (fun j hj=> .inr (by have:=HBG.out;have:=HBS.out;omega))) hj2 hyl2;rw[HENC.out]at hy;have HW2:=hid hW2;have hrl:=HRL.out;rw[<- hrl]at hW2;rw[hW2]at hy hR;have HW2':=hid hW2;have HS2:Hid (W2.heap.size=wr.heap.size+1):=hid q1;clear hres hpre hj2 hyl2 q1 q2 q3 q4 hW2 hrl;gi_wp2
     refine hR.mono ?_;clear hR hy;rw[<- HW2'.out];rintro e W3 ⟨hmv3,Y3,hy3,⟨rfl,hj3⟩ | ⟨rfl,hjx3⟩⟩
     ·have hyw:∀ j,Y j->j<wr.heap.size:=fun j hj=>(HW.out.yl j hj).1
      have hq3:W3.heap[wr.heap.size]?=some (.cells #[.int .u8 k,SS,.int .u8 n,p.a,p.l,p.c,.slice A' l1 ca'] 50 (0,0)):=(hmv3.block wr.heap.size (by rw[HS2.out];omega) (fun hj=>by have:=hyw _ hj;omega)).trans HQ3.out;have hbk3:W3.heap[kb]?=some (.cells #[.func (.func 38) #[] #[]] 102 (0,0)):=by
       have h:=HW.out;have h1:=(h.sel HW2.out).2.1 kb (by have:=h.lt;have:=h.bs;omega) (by have:=h.lt;have:=HBG.out;omega);exact (hmv3.block kb (by have:=h.lt;have:=h.bs;rw[HS2.out];omega) h.nl.2).trans (h1.trans h.bk)
      have hxat3:Nd.at_ W3 (OkI W3 Y3 (some ⟨g,0,none⟩)) .ty x:=by
       have h:=HW.out;have h2:=(h.sel HW2.out).2.1;refine HX.out.2.keep (fun j hj=>(hmv3.block j (by have:=hj.1;rw[HS2.out];omega) hj.2.1).trans (h2 j hj.1 (fun e=>hj.2.2 0 (by rw[e])))) (fun j hj=>OkI.step (by have:=hmv3.size;rw[HS2.out]at this;omega) (fun j hj=>(hy3 j hj).2.imp id (fun h=>by rw[HS2.out]at h;omega)) (fun j o e=> .inl ⟨o,e⟩) hj)
      rw[Nd.at_,HXD.out]at hxat3;simp only at hxat3;have hek:Calls Tryz.prog 38 #[.agg #[.int .u8 k,SS,.int .u8 n,p.a,p.l,p.c,.slice A' l1 ca']] W3 (fun e w'=>e=.returned (.slice A' l1 ca')/\Bel W3 w'):=by
       rw[HSS.out];exact ZO k s n p A' l1 ca' W3
      have HKT3:=hid hxat3.1;have HAR:Hid (arms=.nil):=hid (by
       rcases hxat3.2 with ⟨e,_⟩ | ⟨_,e⟩
       ·cases e
       ·exact Tr.len_nil _ e)
      have HEK:=hid hek;have HMV3:=hid hmv3;have HY3:=hid hy3;have HJ3:=hid hj3;have c0:=jH hbk3;obtain⟨x0,x1,x2,x3,x4,x5,x6⟩:=box7 hq3;have eg:∀ args w,(callFunc 38 args).run Tryz.prog w=.ok (.enter 38 args) w:=fun args w=>by kernel_rfl
      clear hek hmv3 hy3 hj3 hbk3 hq3 hyw hxat3;gi_wp2_with (first | (gi_at_builtin;refine jB ?_) | (refine⟨trivial,?_⟩;gi_at_call 38;refine (callsIn_wide.2 HEK.out).mono ?_;rintro e W4 ⟨rfl,hb4⟩))
      have hrow4:=WSt.row3 HW.out HMM.out HW2.out hgl HMV3.out hb4;have HROW4:=hid hrow4;have HB4:=hid hb4;have hmb:=HVS.out.2;have hbs4:base<=W4.heap.size:=by have:=HW.out.bs;have:=HMV3.out.size;have:=HS2.out;have:=hb4.size;omega
      have HK4:Hid (KidsTr W4 (J7 W3 (OkI W3 Y3 (some ⟨g,0,none⟩)) W4) .ty A' kids.len ca' kids):=hid ((HKT3.out.keep fun j hj=>hb4.block j hj.1).wide fun j hj=> .inl hj);have HPRE:Hid (∀ d,kids.pre d=kids.pre d++arms.pre d):=hid (fun d=>by rw[HAR.out];simp[Tr.pre]);obtain⟨kl,hkl⟩:∃ kl,kl=l1:=⟨_,rfl⟩
      rw[<- hkl];have HKL:Hid (kl=kids.len):=hid (by rw[hkl];exact HL1.out);obtain⟨A5,hA5⟩:∃ A5,A5=A':=⟨_,rfl⟩
      obtain⟨c5,hc5⟩:∃ c5,c5=ca':=⟨_,rfl⟩
      rw[<- hA5,<- hc5]at HK4 ⊢;clear hA5 hc5;clear hrow4 hb4 c0 x0 x1 x2 x3 x4 x5 x6 hkl;unfold jj;refine wpListIn_append_own_at _ rfl _ _ 212 rfl base 48 i0 (.slice none 0 0) 1 24 Tryz.underlying212 hi0 hz0 hz1 hz2 rfl (by decide) (.slice (some ⟨g,0,none⟩) (mm+1) cc) (mm+1) _ rfl (HROW4.out.alloc _) ⟨W4.heap.size,0,none⟩ 1 1 [.slice A5 kl c5] rfl rfl (fun j u hu=>by rw[Addr.add_lit,Nat.zero_add];exact qE _ _ _ j u hu) (by simp[Value.oneCell']) (by unfold maxLen;omega) (by omega) (by simp;omega) ?_;intro v' w5 hown5 hg5 _ hat5;obtain⟨g5,c6,rfl,hws⟩:=WSt.next HJ.out HW.out HMM.out rfl HX.out.1 HRES.out HW2.out hgl HBG.out HMV3.out HY3.out HJ3.out HB4.out (K:=⟨A5,c5,kids⟩) HK4.out HPRE.out (by rw[HBS.out];exact Nat.le_refl _) (by have h:=hown5;rw[HKL.out]at h;exact h) hg5 hat5;have HWS:=hid hws;clear hown5 hg5 hat5 hws;gi_wp2
      go_roundw
      case rel=>exact⟨_,_,_,_,_,_,_,rfl,HWS,rfl⟩
      case measure=>
       refine Nat.lt_of_le_of_lt ((leastOf_spec ⟨_,_,_,_,_,_,_,rfl,HWS,rfl⟩).2 _ ⟨_,_,_,_,_,_,rfl,HWS,rfl⟩) ?_;rw[<- HGK.out,HMS.out];simp only[msS,Tr.size];omega
     ·have HJX:=hid hjx3
      have HM3:=hid (And.intro hmv3 hy3);clear hmv3 hy3 hjx3;gi_wp2
      (try simp only[Exit.inBlock,Exit.then])
      refine bodyPost_ret (results_none rfl _ _ _) rfl ?_;have s4:=(HW.out.sel HW2.out).2.2.2;have z2:=HS2.out;have zb:=HW.out.bs;refine⟨⟨_,rfl⟩,?_,pre++[x],Y3,fun j hj=>⟨(HM3.out.2 j hj).1,?_⟩,.inr HJX.out⟩
      ·exact ((HW.out.mv.trans s4 (fun j hj=> .inr (by have:=HBG.out;have:=HBS.out;omega))).trans HM3.out.1 (fun j hj=>(HW.out.yl j hj).2))
      ·rcases (HM3.out.2 j hj).2 with h' | h'
       ·exact (HW.out.yl j h').2
       ·right;have:=HBS.out;omega
    ·have hres:KidsTr wr (OkI wr Y (some ⟨g,0,none⟩)) .ty (some ⟨b,o+7,none⟩) rest.len (fc-1) rest:=⟨rfl,by rw[<- HRL.out];omega,fun _=>⟨b,o+7,rfl,HOB.out,HP.out.2.2⟩⟩
     have HRES:=hid hres;obtain⟨W2,hW2⟩:∃ W2,W2=(wr.setCell ⟨g,mm,none⟩ (.slice (some ⟨b,o+7,none⟩) rest.len (fc-1))).alloc (.cells #[.int .u8 k,SS,.int .u8 n,p.a,p.l,p.c,.slice A' l1 ca'] 50):=⟨_,rfl⟩
     obtain⟨hpre,hj2,hyl2⟩:=WSt.hand HJ.out HW.out HMM.out rfl HX.out.1 HX.out.2 hW2;obtain⟨q1,q2,q3,q4⟩:=HW.out.sel hW2;have HQ3:=hid q3;obtain⟨fn,tmps,assign,body,hy,hR⟩:=HY.out pre x Y W2 hpre (HW.out.mv.trans q4 (fun j hj=> .inr (by have:=HBG.out;have:=HBS.out;omega))) hj2 hyl2;rw[HENC.out]at hy;have HW2:=hid hW2;have hrl:=HRL.out;rw[<- hrl]at hW2;rw[hW2]at hy hR;have HW2':=hid hW2;have HS2:Hid (W2.heap.size=wr.heap.size+1):=hid q1;clear hres hpre hj2 hyl2 q1 q2 q3 q4 hW2 hrl;gi_wp2
     refine hR.mono ?_;clear hR hy;rw[<- HW2'.out];rintro e W3 ⟨hmv3,Y3,hy3,⟨rfl,hj3⟩ | ⟨rfl,hjx3⟩⟩
     ·have hyw:∀ j,Y j->j<wr.heap.size:=fun j hj=>(HW.out.yl j hj).1
      have hq3:W3.heap[wr.heap.size]?=some (.cells #[.int .u8 k,SS,.int .u8 n,p.a,p.l,p.c,.slice A' l1 ca'] 50 (0,0)):=(hmv3.block wr.heap.size (by rw[HS2.out];omega) (fun hj=>by have:=hyw _ hj;omega)).trans HQ3.out;have hbk3:W3.heap[kb]?=some (.cells #[.func (.func 38) #[] #[]] 102 (0,0)):=by
       have h:=HW.out;have h1:=(h.sel HW2.out).2.1 kb (by have:=h.lt;have:=h.bs;omega) (by have:=h.lt;have:=HBG.out;omega);exact (hmv3.block kb (by have:=h.lt;have:=h.bs;rw[HS2.out];omega) h.nl.2).trans (h1.trans h.bk)
      have hxat3:Nd.at_ W3 (OkI W3 Y3 (some ⟨g,0,none⟩)) .ty x:=by
       have h:=HW.out;have h2:=(h.sel HW2.out).2.1;refine HX.out.2.keep (fun j hj=>(hmv3.block j (by have:=hj.1;rw[HS2.out];omega) hj.2.1).trans (h2 j hj.1 (fun e=>hj.2.2 0 (by rw[e])))) (fun j hj=>OkI.step (by have:=hmv3.size;rw[HS2.out]at this;omega) (fun j hj=>(hy3 j hj).2.imp id (fun h=>by rw[HS2.out]at h;omega)) (fun j o e=> .inl ⟨o,e⟩) hj)
      rw[Nd.at_,HXD.out]at hxat3;simp only at hxat3;have hek:Calls Tryz.prog 38 #[.agg #[.int .u8 k,SS,.int .u8 n,p.a,p.l,p.c,.slice A' l1 ca']] W3 (fun e w'=>e=.returned (.slice A' l1 ca')/\Bel W3 w'):=by
       rw[HSS.out];exact ZO k s n p A' l1 ca' W3
      have HKT3:=hid hxat3.1;have HAR:Hid (arms=.nil):=hid (by
       rcases hxat3.2 with ⟨e,_⟩ | ⟨_,e⟩
       ·cases e
       ·exact Tr.len_nil _ e)
      have HEK:=hid hek;have HMV3:=hid hmv3;have HY3:=hid hy3;have HJ3:=hid hj3;have c0:=jH hbk3;obtain⟨x0,x1,x2,x3,x4,x5,x6⟩:=box7 hq3;have eg:∀ args w,(callFunc 38 args).run Tryz.prog w=.ok (.enter 38 args) w:=fun args w=>by kernel_rfl
      clear hek hmv3 hy3 hj3 hbk3 hq3 hyw hxat3;gi_wp2_with (first | (gi_at_builtin;refine jB ?_) | (refine⟨trivial,?_⟩;gi_at_call 38;refine (callsIn_wide.2 HEK.out).mono ?_;rintro e W4 ⟨rfl,hb4⟩))
      have hrow4:=WSt.row3 HW.out HMM.out HW2.out hgl HMV3.out hb4;have HROW4:=hid hrow4;have HB4:=hid hb4;have hmb:=HVS.out.2;have hbs4:base<=W4.heap.size:=by have:=HW.out.bs;have:=HMV3.out.size;have:=HS2.out;have:=hb4.size;omega
      have HK4:Hid (KidsTr W4 (J7 W3 (OkI W3 Y3 (some ⟨g,0,none⟩)) W4) .ty A' kids.len ca' kids):=hid ((HKT3.out.keep fun j hj=>hb4.block j hj.1).wide fun j hj=> .inl hj);have HPRE:Hid (∀ d,kids.pre d=kids.pre d++arms.pre d):=hid (fun d=>by rw[HAR.out];simp[Tr.pre]);obtain⟨kl,hkl⟩:∃ kl,kl=l1:=⟨_,rfl⟩
      rw[<- hkl];have HKL:Hid (kl=kids.len):=hid (by rw[hkl];exact HL1.out);obtain⟨A5,hA5⟩:∃ A5,A5=A':=⟨_,rfl⟩
      obtain⟨c5,hc5⟩:∃ c5,c5=ca':=⟨_,rfl⟩
      rw[<- hA5,<- hc5]at HK4 ⊢;clear hA5 hc5;clear hrow4 hb4 c0 x0 x1 x2 x3 x4 x5 x6 hkl;unfold jj;refine wpListIn_append_own_at _ rfl _ _ 212 rfl base 48 i0 (.slice none 0 0) 1 24 Tryz.underlying212 hi0 hz0 hz1 hz2 rfl (by decide) (.slice (some ⟨g,0,none⟩) (mm+1) cc) (mm+1) _ rfl (HROW4.out.alloc _) ⟨W4.heap.size,0,none⟩ 1 1 [.slice A5 kl c5] rfl rfl (fun j u hu=>by rw[Addr.add_lit,Nat.zero_add];exact qE _ _ _ j u hu) (by simp[Value.oneCell']) (by unfold maxLen;omega) (by omega) (by simp;omega) ?_;intro v' w5 hown5 hg5 _ hat5;obtain⟨g5,c6,rfl,hws⟩:=WSt.next HJ.out HW.out HMM.out rfl HX.out.1 HRES.out HW2.out hgl HBG.out HMV3.out HY3.out HJ3.out HB4.out (K:=⟨A5,c5,kids⟩) HK4.out HPRE.out (by rw[HBS.out];exact Nat.le_refl _) (by have h:=hown5;rw[HKL.out]at h;exact h) hg5 hat5;have HWS:=hid hws;clear hown5 hg5 hat5 hws;gi_wp2
      go_roundw
      case rel=>exact⟨_,_,_,_,_,_,_,rfl,HWS,rfl⟩
      case measure=>
       refine Nat.lt_of_le_of_lt ((leastOf_spec ⟨_,_,_,_,_,_,_,rfl,HWS,rfl⟩).2 _ ⟨_,_,_,_,_,_,rfl,HWS,rfl⟩) ?_;rw[<- HGK.out,HMS.out];simp only[msS,Tr.size];omega
     ·have HJX:=hid hjx3
      have HM3:=hid (And.intro hmv3 hy3);clear hmv3 hy3 hjx3;gi_wp2
      (try simp only[Exit.inBlock,Exit.then])
      refine bodyPost_ret (results_none rfl _ _ _) rfl ?_;have s4:=(HW.out.sel HW2.out).2.2.2;have z2:=HS2.out;have zb:=HW.out.bs;refine⟨⟨_,rfl⟩,?_,pre++[x],Y3,fun j hj=>⟨(HM3.out.2 j hj).1,?_⟩,.inr HJX.out⟩
      ·exact ((HW.out.mv.trans s4 (fun j hj=> .inr (by have:=HBG.out;have:=HBS.out;omega))).trans HM3.out.1 (fun j hj=>(HW.out.yl j hj).2))
      ·rcases (HM3.out.2 j hj).2 with h' | h'
       ·exact (HW.out.yl j h').2
       ·right;have:=HBS.out;omega
set_option maxHeartbeats 4000000
theorem Zc(A:Option Addr)(n c:Nat)(w:World):Calls Tryz.prog 75 #[.slice A n c,.func (.func 38) #[] #[]] w fun e w'=>e=.returned (.func (.func 118) #[] #[.pointer (some ⟨w.heap.size,0,none⟩),.pointer (some ⟨w.heap.size+1,0,none⟩)])/\w'=(w.alloc (.cells #[.slice A n c] 48)).alloc (.cells #[.func (.func 38) #[] #[]] 102):=by
 go_enter Tryz.func75,Tryz.ntmps75
 go_wp2
 go_ret
 exact⟨rfl,rfl⟩
theorem qc3(k:Int)(s:List UInt8)(n:Int)(p:Pl)(A:Option Addr)(l c:Nat)(w:World):Calls Tryz.prog 39 #[.agg #[.int .u8 k,.string ⟨s.toArray⟩,.int .u8 n,p.a,p.l,p.c,.slice A l c]] w fun e w'=>e=.returned (.int .i64 1)/\Bel w w':=by
 go_enter Tryz.func39,Tryz.ntmps39
 go_wp2
 go_ret
 exact⟨rfl,(Bel.refl w).alloc _⟩
theorem qbT(A:Option Addr)(n c:Nat)(f:Tr)(w:World)(hk:KidsTr w (OldT w) .ty A n c f)(hsz:f.size<=1000000) :
  Calls Tryz.prog 36 #[.slice A n c,.func (.func 38) #[] #[],.func (.func 39) #[] #[]] w fun e w'=>e=.returned (.int .i64 (f.depth:Int))/\Bel w w':=by
 have HK:=hid hk;clear hk;refine (callsIn_wide (n:=6)).1 ?_;refine callsIn_of_wp_marks Tryz.func36 rfl trivial ?_ rfl;simp only[Tryz.ntmps36,List.size_toArray,List.length_cons,List.length_nil,Nat.reduceAdd,Nat.reduceSub,Array.replicate_succ,Array.replicate_zero,List.push_toArray,List.append_toArray,List.nil_append,List.cons_append];gi_wp2_with (refine⟨trivial,?_⟩;gi_at_call 75;refine (callsIn_wide.2 (Zc _ _ _ _)).mono ?_;rintro e w2 ⟨rfl,rfl⟩)
 obtain⟨hb,hhb⟩:∃ hb,hb=w.heap.size:=⟨_,rfl⟩
 obtain⟨wq,hwq⟩:∃ wq,wq=(((w.alloc (.cells #[.func (.func 39) #[] #[]] 103)).alloc (.cells #[.int .i64 0] 3)).alloc (.cells #[.slice A n c] 48)).alloc (.cells #[.func (.func 38) #[] #[]] 102):=⟨_,rfl⟩
 have hbq:Bel w wq:=by rw[hwq];exact ((((Bel.refl w).alloc _).alloc _).alloc _).alloc _
 have hsq:wq.heap.size=hb+4:=by rw[hwq,hhb];simp
 have hq4:=blk4 w (.cells #[.func (.func 39) #[] #[]] 103) (.cells #[.int .i64 0] 3) (.cells #[.slice A n c] 48) (.cells #[.func (.func 38) #[] #[]] 102);rw[<- hwq,<- hhb]at hq4;obtain⟨q0,q1,q2,q3⟩:=hq4;replace q0:Boxed wq hb 103 (.func (.func 39) #[] #[]):=q0
 replace q1:Boxed wq (hb+1) 3 (.int .i64 0):=q1
 replace q2:Boxed wq (hb+2) 48 (.slice A n c):=q2
 replace q3:Boxed wq (hb+3) 102 (.func (.func 38) #[] #[]):=q3
 rw[<- hwq,<- hhb];have HBQ:=hid hbq;have HHB:=hid hhb;have HSQ:=hid hsq;have Q0:=hid q0;have Q1:=hid q1;have Q2:=hid q2;have Q3:=hid q3;clear hwq hbq hsq q0 q1 q2 q3 hhb;refine zg (α:=Nd) (gf:=118) (lb:=#[.pointer (some ⟨hb+2,0,none⟩),.pointer (some ⟨hb+3,0,none⟩)]) rfl (fun args w=>by kernel_rfl) (encs:=encT) (Zd A n c (hb+2) (hb+3) f hsz) (fun _=>rfl)
  (fun pre x Y W W' h hs hk=>⟨h.1,h.2.keep (fun j hj=>hk j hj.1 hj.2) (fun j hj=>⟨Nat.lt_of_lt_of_le hj.1 hs,hj.2⟩)⟩)
  (fun xs Y W=>(∀ k,Y k↔(k=hb∨k=hb+1))/\Boxed W hb 103 (.func (.func 39) #[] #[])/\Boxed W (hb+1) 3 (.int .i64 (vmax hdE 0 (xs.map Nd.v):Nat))/\hb+4<=W.heap.size) (fun _ _ _=>False) ?_ (fun _ _ _ _ h _ _=>h)
  (Y0:=fun k=>k=hb∨k=hb+1) ?_ (fun k hk=>by have:=HSQ.out;omega) ⟨fun _=>Iff.rfl,Q0.out,Q1.out,by rw[HSQ.out];exact Nat.le_refl _⟩
  (fun x bx=>{ tmps:=#[.slice A n c,.func (.func 38) #[] #[],.func (.func 39) #[] #[],undef,undef,.pointer (some ⟨hb,0,none⟩),(0:Int),.pointer (some ⟨hb+1,0,none⟩),x.v.d,.pointer (some ⟨bx,0,none⟩),.slice A n c,.func (.func 38) #[] #[],.func (.func 118) #[] #[.pointer (some ⟨hb+2,0,none⟩),.pointer (some ⟨hb+3,0,none⟩)],x.v.d,.agg #[.int .u8 x.v.k,.string ⟨x.v.s.toArray⟩,.int .u8 x.v.n,x.p.a,x.p.l,x.p.c,.slice x.A x.v.kids.len x.ca],undef,undef,undef,undef,undef,undef,undef,undef],defers:=[] })
  (fun x=> .cells #[.int .u8 x.v.k,.string ⟨x.v.s.toArray⟩,.int .u8 x.v.n,x.p.a,x.p.l,x.p.c,.slice x.A x.v.kids.len x.ca] 50) ?_ ?_ ?_ ?_
 ·rintro s Y W W' ⟨h1,h2,h3,h4⟩ hs hk
  exact⟨h1,(hk hb ((h1 hb).2 (.inl rfl))).trans h2,(hk (hb+1) ((h1 _).2 (.inr rfl))).trans h3,Nat.le_trans h4 hs⟩
 ·rintro Y W hbW hY
  have hn:∀ j,Y j->hb<=j/\j≠hb+2/\j≠hb+3:=fun j hj=>by
   have:=HSQ.out;rcases hY j hj with (h | h) | h <;> omega
  refine⟨hbW.blk Q2.out,hbW.blk Q3.out,(HK.out.keep (fun j hj=>(HBQ.out.on hbW).block j hj)).wide (fun j hj=>⟨Nat.lt_of_lt_of_le hj (HBQ.out.on hbW).size,fun h=>?_⟩),fun h=>(hn _ h).2.1 rfl,fun h=>(hn _ h).2.2 rfl⟩;have h1:=(hn j h).1;have h2:j<w.heap.size:=hj;rw[HHB.out]at h1;omega
 ·rintro l x W K hK
  have HKK:=hid hK;clear hK;simp only[encT];gi_wp2
  exact HKK.out
 ·rintro l bx pre x Y W hbx1 hbx2 hob hYb ⟨Y',hYY,⟨suf,hpre⟩,hat⟩ hmv0 hYl ⟨hY,hi1,hi2,hi3⟩ hYs
  have hmem:x.v∈f.pre 0:=by rw[hpre];simp
  have hvs:=Tr.pre_size f 0 x.v hmem;have HVS:Hid (x.v.kids.size+x.v.arms.size<=1000000/\x.v.d<=1000000):=hid (by omega);have HAT:=hid hat;have HYS:=hid hYs;have HY:=hid hY;have HYY:=hid hYY;have HI1:=hid hi1;have HI2:=hid hi2;have HI3:=hid hi3;have HBX:=hid hbx1;obtain⟨m,hm⟩:∃ m,m=vmax hdE 0 (pre.map Nd.v):=⟨_,rfl⟩
  rw[<- hm]at HI2 hi2;have HM:=hid hm;obtain⟨xv,xp,xA,xca,xB,xcb⟩:=x;obtain⟨d,k,s,nn,kids,arms⟩:=xv;obtain⟨l1,hl1⟩:∃ l,l=kids.len:=⟨_,rfl⟩
  obtain⟨l2,hl2⟩:∃ l,l=arms.len:=⟨_,rfl⟩
  obtain⟨SS,hSS⟩:∃ S:ByteArray,S=⟨s.toArray⟩:=⟨_,rfl⟩
  obtain⟨hv,hhv⟩:∃ hv,hv=hdE ⟨d,k,s,nn,kids,arms⟩:=⟨_,rfl⟩
  have HHV:=hid hhv;simp only at HAT HVS hob ⊢;have har:arms=.nil:=by
   rcases HAT.out.2 with ⟨e,_⟩ | ⟨_,e⟩
   ·cases e
   ·exact Tr.len_nil _ e
  have hv1:hv=1:=by rw[hhv,har];rfl
  have HC:Hid (∀ W',Bel W W'->Calls Tryz.prog 39 #[.agg #[.int .u8 k,.string ⟨s.toArray⟩,.int .u8 nn,xp.a,xp.l,xp.c,.slice xA kids.len xca]] W' fun e w'=>e=.returned (.int .i64 (hv:Int))/\Bel W' w'):=hid fun W' _=>by
   rw[hv1];exact qc3 k s nn xp xA kids.len xca W'
  have HV1:=hid hv1;clear hv1 har;simp only[<- hl1,<- hSS]at hob HC ⊢;have hvb:hv<=1000001:=by have:=HV1.out;omega
  have hdb:d<=1000000:=HVS.out.2;obtain⟨x0,x1,x2,x3,x4,x5,x6⟩:=box7 hob;have eg:∀ args w,(callFunc 39 args).run Tryz.prog w=.ok (.enter 39 args) w:=fun args w=>by kernel_rfl
  have y0:=qa hbx2 x0;have y1:=qa hbx2 x1;have y2:=qa hbx2 x2;have y3:=qa hbx2 x3;have y4:=qa hbx2 x4;have y5:=qa hbx2 x5;have y6:=qa hbx2 x6;have z0:=qa (by have:=HI3.out;omega) hi1.cell;have z1:=qa (by have:=HI3.out;omega) hi2.cell;clear hmv0 hpre hmem hvs hat hYs hY hYY hi1 hi2 hi3 hob hYl hbx1 hYb hl1 hl2 hSS hhv hm;gi_wp2_with fail
  refine q9 7 (by kernel_rfl) (by kernel_rfl) (fun ⟨_,_,h⟩=>h) (by kernel_rfl) ?_;simp only[List.take_succ_cons,List.take_zero,List.drop_succ_cons,List.drop_zero];repeat (go_big_quiet_step (exact (HC.out _ (Abw.bel _)).mono fun e w h=>⟨h.1,⟨_,(Abw.bel _).on h.2⟩,rfl⟩))
  refine wpQuiet_nil ?_;rintro w4 ⟨⟨w4,hb4⟩,rfl⟩;have HB4:=hid hb4;have f1:w4.cell? ⟨hb+1,0,none⟩=some (.int .i64 (m:Int)):=z1 ⟨w4,hb4⟩;have f2:w4.frozen? ⟨hb+1,0,none⟩=false:=Boxed.frozen (hb4.blk HI2.out);clear z0 z1 x0 x1 x2 x3 x4 x5 x6 y0 y1 y2 y3 y4 y5 y6;go_wp2_with fail
  have hB1:Boxed w4 hb 103 (.func (.func 39) #[] #[]):=HB4.out.blk HI1.out;have hB2:Boxed w4 (hb+1) 3 (.int .i64 (m:Int)):=HB4.out.blk HI2.out;refine⟨Mv.set_ (p:=⟨hb+1,0,none⟩) (Mv.of_bel HB4.out) (.inl ((HY.out (hb+1)).2 (.inr rfl))) _,Y,⟨HY.out,hB1.other (by omega) _,?_,by have:=HB4.out.size;have:=HI3.out;simp;omega⟩,fun j hj=>⟨by have:=HB4.out.size;have:=HYS.out j hj;simp;omega,.inl hj⟩⟩;have e:((vmax hdE 0 (List.map Nd.v (pre++[⟨⟨d,k,s,nn,kids,arms⟩,xp,xA,xca,xB,xcb⟩])):Nat):Int)=max (m:Int) ((d:Int)+(hv:Int)):=by
   rw[List.map_append,List.map_cons,List.map_nil,Q9,<- HM.out,<- HHV.out];simp only;omega
  rw[e];exact hB2.set _
 ·rintro D xs Y W hD hfin ⟨hY,hi1,hi2,hi3⟩ hmv hYs hDd hYD
  have HI:=hid hi2;have HFIN:=hid hfin;have HMV:=hid hmv;have HDD:=hid hDd;have HDL:=hid hD;have c1:=hi2.cell;clear hY hi1 hi2 hi3 hmv hYs hDd hYD hfin hD;simp only[Exit.inBlock,Exit.then];gi_wp2
  refine qw HDD.out (fun w' hmw=>⟨_,results_tmp rfl _ _ _,?_⟩);refine⟨?_,?_⟩
  ·have hk':=HK.out
   rw[show f.depth=vmax hdE 0 (xs.map Nd.v) by rw[HFIN.out,Tr.depth_pre f (hk'.isNods (by intro e;cases e)) hk'.ok]];rfl
  ·have h1:Mv (fun k=>k=hb∨k=hb+1) w W:=(Mv.of_bel HBQ.out).trans HMV.out (fun j hj=> .inl hj)
   have h2:Mv (fun _=>False) w W:=⟨h1.os,h1.tape,h1.output,h1.size,fun j hj _=>h1.block j hj (by have:=HHB.out;omega)⟩
   exact (h2.trans hmw (fun j hj=> .inr (by have:=HDL.out;have:=HBQ.out.size;omega))).bel
 ·rintro D xs Y W _ h
  exact h.elim
end Go.Proofs.YtfpoelklhekfaaaGreatDoor.Mu
