import Derived.Shelf.Abstract
import Derived.OwnWalkIn
import Derived.TacticsInMore
import Derived.LoopNIn
import Derived.LoopIn
import Derived.WalkSmall
import Derived.LoopTactic
import Derived.Maps.OwnIn
import Derived.OrdersIn
import Derived.RegionTactic
import Derived.Test.YtmloadclmjcbbaaGreatDoorRaf
open Go.Lib (hid)
namespace Go.Proofs.YtmloadclmjcbbaaGreatDoor.Mu
set_option maxHeartbeats 4000000
open Go Go.RowKit Go.Shelf
attribute [local go_sem] Oper.semAt_some
set_option linter.unusedVariables false
set_option maxRecDepth 100000
def encT(x:Nd):Array Value:=#[.int .i64 x.v.d,.agg #[.int .u8 x.v.k,.string ⟨x.v.s.toArray⟩,.int .u8 x.v.n,.int .i64 x.p.a,.int .i64 x.p.l,.int .i64 x.p.c,.slice x.A x.v.kids.len x.ca]]
theorem qe4:(Tryz.prog.info? 41).map (fun i=>(i.zero,i.size,i.bytes))=some (some (.slice none 0 0),1,24):=by kernel_rfl
theorem JN(A0:OA)(n0 c0 lb kb:Nat)(f0:Tr)(hsz:f0.size<=1000000) :
  SeqL Tryz.prog 112 #[.pointer (some ⟨lb,0,none⟩),.pointer (some ⟨kb,0,none⟩)] encT
   (fun Y W=>W.heap[lb]?=some (.cells #[.slice A0 n0 c0] 41 (0,0))/\W.heap[kb]?=some (.cells #[.func (.func 35) #[] #[]] 80 (0,0))/\KidsTr W (fun j=>j<W.heap.size/\¬ Y j) .ty A0 n0 c0 f0/\¬ Y lb/\¬ Y kb)
   (fun pre x Y W=>(∃ suf,f0.pre 0=pre.map Nd.v++x.v::suf)/\x.at_ W (fun j=>j<W.heap.size/\¬ Y j) .ty)
   (fun xs=>xs.map Nd.v=f0.pre 0):=by
 intro l J Jx Y0 W0 hok hY0 hJ hJx hY h0;obtain⟨hlb,hkb,hkt,hnl,hnk⟩:=hok;have HLB:=hid hlb;have HKB:=hid hkb;have HKT:=hid hkt;have HNL:=hid (And.intro hnl hnk);have HY0:=hid hY0;have HJ:=hid hJ;have HY:=hid hY;have H0:=hid h0;have z0:=QQ hlb;obtain⟨i0,hi0,hz0,hz1,hz2⟩:=info_parts qe4;have HL0:Hid (n0=f0.len):=hid hkt.1;clear hlb hkb hkt hnl hnk hY0 hJ hJx hY h0;refine (callsIn_wide (n:=6)).1 ?_;refine callsIn_of_wp Tryz.func112 rfl trivial ?_ rfl;simp only[Tryz.ntmps112,List.size_toArray,lC,lNn,Nat.reduceAdd,Nat.reduceSub,Array.replicate_succ,Array.replicate_zero,List.push_toArray,List.append_toArray,List.nil_append,cAa];gi_wp2;obtain⟨base,hbase⟩:=nW W0.heap.size;obtain⟨w1,hw1⟩:=nW (W0.alloc (.cells #[.slice A0 n0 c0] 41));have hb1:Bel W0 w1:=by rw[hw1];exact (Bel.refl W0).alloc _
 have hq1:w1.heap[base]?=some (.cells #[.slice A0 n0 c0] 41 (0,0)):=by rw[hw1,hbase];exact blk1 W0 _
 have hs1:w1.heap.size=base+1:=by rw[hw1,hbase];simp
 rw[<- hw1,<- hbase];have hlt:lb<base/\kb<base:=by rw[hbase];exact⟨(aJ.1 HLB).1,(aJ.1 HKB).1⟩
 have HST:Hid (WSt 41 41 80 35 .ty f0 J lb kb base (.slice A0 n0 c0) Y0 W0 (some ⟨base,0,none⟩) 1 1 [⟨A0,c0,f0⟩] [] Y0 w1):=hid (by
  refine⟨rfl,⟨rfl,.inr ⟨base,1,_,rfl,lR _,hq1,lR _,by unfold maxLen;omega,rfl,?_⟩⟩,fun j o e hy=>?_,hb1.blk HLB,hb1.blk HKB,hlt,HNL,?_,HJ _ _ _ _ H0 hb1.size (fun j hj=>hb1.block j (HY0 j hj)),fun j hj=>⟨lT (HY0 j hj) hb1.size,.inl hj⟩,Mv.of_bel hb1,by omega,?_⟩
  ·simp[itV,It.val,<- HL0.out]
  ·cases e;have:=HY0.out _ hy;omega
  ·intro x hx
   simp at hx;subst hx;have hk:=HKT.out;rw[HL0.out]at hk;refine (hk.keep fun j hj=>hb1.block j hj.1).wide fun j hj=>⟨lT hj.1 hb1.size,hj.2,fun o e=>?_⟩
   cases e;have:=hj.1;omega
  ·simp[todo])
 have HBS:=hid hbase;clear hb1 hq1 hs1 hw1 hbase z0 hlt HLB HKB HKT H0 HNL HL0;gi_loopw [4] (fun v wr=>∃ k:Nat,∃ S pre Y A cc m,v=.slice A m cc/\Hid (WSt 41 41 80 35 .ty f0 J lb kb base (.slice A0 n0 c0) Y0 W0 A cc m S pre Y wr)/\k=msS S) (fun v wr=>leastOf (fun k:Nat=>∃ S pre Y A cc m,v=.slice A m cc/\Hid (WSt 41 41 80 35 .ty f0 J lb kb base (.slice A0 n0 c0) Y0 W0 A cc m S pre Y wr)/\k=msS S))
 case atStart=>exact⟨_,_,_,_,_,_,_,rfl,HST,rfl⟩
 case round=>
  clear HST;obtain⟨gk,hgk⟩:=nW (leastOf (fun k:Nat=>∃ S pre Y A cc m,u4=.slice A m cc/\Hid (WSt 41 41 80 35 .ty f0 J lb kb base (.slice A0 n0 c0) Y0 W0 A cc m S pre Y wr)/\k=msS S));have hmin:=(leastOf_spec hrel).1;rw[<- hgk]at hmin;clear hrel;obtain⟨S,pre,Y,A,cc,m,rfl,HW,hms⟩:=hmin;have HGK:=hid hgk;have HMS:=hid hms;clear hgk hms;cases S with
  | nil=>
   have hm:m=0:=HW.out.len;subst hm;gi_wp2;go_end0;exact⟨⟨_,rfl⟩,HW.out.mv,pre,Y,HW.out.yl,.inl ⟨by have h:=HW.out.what;simpa [todo] using h.symm,HW.out.j⟩⟩
  | cons it S=>
   obtain⟨mm,hmm⟩:=nW S.length;have hm:m=mm+1:=by rw[hmm];exact HW.out.len
   subst hm;obtain⟨g,eA,hbg,hgl,hcc,hcm,hcell,hfz,hrow⟩:=qcg hmm HW.out.row;subst eA;obtain⟨fA,fc,f⟩:=it;obtain⟨fl,hfl⟩:=nW f.len;simp only[It.val,<- hfl]at hcell;have hm63:mm+1<=9223372036854775807:=by unfold maxLen at hcm;omega
   have i0':(0:Int)<=(mm:Int):=by omega
   have i1:(mm:Int)<(mm:Int)+1:=by omega
   have i4:(mm:Int)<=(cc:Int):=by omega
   have HMM:=hid hmm;have HFL:=hid hfl;have HROW:=hid hrow;clear hmm hfl hrow hcm;by_cases hf0:fl=0
   ·subst hf0
    obtain rfl:=Tr.len_nil f HFL.out.symm;have HW':Hid (WSt 41 41 80 35 .ty f0 J lb kb base (.slice A0 n0 c0) Y0 W0 (some ⟨g,0,none⟩) cc mm S pre Y wr):=hid (by
     have h:=HW.out;refine⟨HMM,HROW,h.ny,h.bl,h.bk,h.lt,h.nl,fun x hx=>h.its x (mCc _ hx),h.j,h.yl,h.mv,h.bs,?_⟩;have e:=h.what;simpa [todo,Tr.pre] using e)
    clear hbg HW HROW;gi_wp2;go_roundw
    case rel=>exact⟨_,S,pre,Y,_,_,_,rfl,HW',rfl⟩
    case measure=>
     refine Nat.lt_of_le_of_lt ((leastOf_spec ⟨_,S,pre,Y,_,_,_,rfl,HW',rfl⟩).2 (msS S) ⟨S,pre,Y,_,_,_,rfl,HW',rfl⟩) ?_;rw[<- HGK.out,HMS.out];simp only[msS];omega
   ·have hkt:=HW.out.its _ List.mem_cons_self
    obtain⟨k,s,n,p,kids,arms,rest,rfl⟩:∃ k s n p kids arms rest,f=.nod k s n p kids arms rest:=by
     have hn:=hkt.isNods (by intro e;cases e);cases f with
     | nil=>exact absurd HFL hf0
     | nod k s n p kids arms rest=>exact⟨_,_,_,_,_,_,_,rfl⟩
     | arm=>exact hn.elim
    obtain⟨b,o,eF,hob,hto⟩:=hkt.2.2 (by simp[Tr.len]);simp only at eF;subst eF;obtain⟨A',ca',B',cb',hc,hk2,ha2,hr2⟩:=hto.parts;have y0:=hc 0 _ rfl;have y1:=hc 1 _ rfl;have y2:=hc 2 _ rfl;have y3:=hc 3 _ rfl;have y4:=hc 4 _ rfl;have y5:=hc 5 _ rfl;have y6:=hc 6 _ rfl;simp only[nZz]at y0;obtain⟨rl,hrl⟩:=nW rest.len;have hfl2:fl=rl+1:=by rw[hrl];exact HFL
    subst hfl2;have hbgn:b≠g:=fun e=>hob.2.2 0 (by rw[e]);have hbl:b<wr.heap.size:=hob.1;have hfcl:rl+1<=fc:=by have:=hkt.2.1;rw[<- HFL.out]at this;exact this
    have HKT:=hid hkt;have HP:=hid (And.intro hk2 (And.intro ha2 hr2));have HOB:=hid hob;have HRL:=hid hrl;have HBG:=hid hbg;obtain⟨l1,hl1⟩:=nW kids.len;obtain⟨l2,hl2⟩:=nW arms.len;obtain⟨SS,hSS⟩:=nW (⟨s.toArray⟩:BA);rw[<- hSS]at y1;rw[<- hl1]at y6;have hl2':=hl2;try rw[<- hl2]at y7
    clear hl2';have HL1:=hid hl1;have HL2:=hid hl2;have HSS:=hid hSS;have j1:(0:Int)<((rl+1:Nat):Int):=by omega
    have j2:((rl:Int)+1==0)=false:=by simp;omega
    clear hc hkt hto hk2 ha2 hr2 hob hrl hl1 hl2 hSS hbg hf0;simp only[Sh.kd]at y2;obtain⟨x,hxd⟩:=nW (⟨⟨mm,k,s,n,kids,arms⟩,p,A',ca',B',cb'⟩:Nd);have hxv:x.v=⟨mm,k,s,n,kids,arms⟩:=by rw[hxd]
    have henc:encT x=#[.int .i64 (mm:Int),.agg #[.int .u8 k,SS,.int .u8 n,p.a,p.l,p.c,.slice A' l1 ca']]:=by rw[hxd,HL1.out,HSS.out];rfl
    have hxat:x.at_ wr (OkI wr Y (some ⟨g,0,none⟩)) .ty:=by rw[hxd];exact⟨HP.1,HP.2.1⟩
    have HX:=hid (And.intro hxv hxat);have HXD:=hid hxd;have hmem:x.v∈f0.pre 0:=by
     rw[HW.out.what,hxv];simp[todo,Tr.pre,<- HMM.out]
    have hvs:=Tr.pre_size f0 0 x.v hmem;rw[hxv]at hvs;simp only at hvs;have HVS:Hid (kids.size+arms.size<=1000000/\mm<=1000000):=hid (by omega);clear hmem hvs;have HENC:=hid henc;clear hxd hxv henc hxat;by_cases hfc1:fc=1
    ·subst hfc1
     obtain rfl:rl=0:=by omega
     have hres:KidsTr wr (OkI wr Y (some ⟨g,0,none⟩)) .ty (some ⟨b,o,none⟩) rest.len 0 rest:=⟨rfl,by rw[<- HRL.out];exact lR _,fun h=>absurd h (by rw[<- HRL.out];omega)⟩
     have HRES:=hid hres;obtain⟨W2,hW2⟩:=nW ((wr.setCell ⟨g,mm,none⟩ (.slice (some ⟨b,o,none⟩) rest.len 0)).alloc (.cells #[.int .u8 k,SS,.int .u8 n,p.a,p.l,p.c,.slice A' l1 ca'] 43));obtain⟨hpre,hj2,hyl2⟩:=WSt.hand HJ HW HMM rfl HX.1 HX.2 hW2;obtain⟨q1,q2,q3,q4⟩:=HW.out.sel hW2;have HQ3:=hid q3;obtain⟨fn,tmps,assign,body,hy,hR⟩:=HY.out pre x Y W2 hpre (HW.out.mv.trans q4 (fun j hj=> .inr (by have:=HBG.out;have:=HBS.out;omega))) hj2 hyl2;rw[HENC.out]at hy;have HW2:=hid hW2;have hrl:=HRL.out;rw[<- hrl]at hW2;rw[hW2]at hy hR;have HW2':=hid hW2;have HS2:Hid (W2.heap.size=wr.heap.size+1):=hid q1;clear hres hpre hj2 hyl2 q1 q2 q3 q4 hW2 hrl;gi_wp2;refine hR.mono ?_;clear hR hy;rw[<- HW2'.out];rintro e W3 ⟨hmv3,Y3,hy3,⟨rfl,hj3⟩ | ⟨rfl,hjx3⟩⟩
     ·have hyw:∀ j,Y j->j<wr.heap.size:=fun j hj=>(HW.out.yl j hj).1
      have hq3:W3.heap[wr.heap.size]?=some (.cells #[.int .u8 k,SS,.int .u8 n,p.a,p.l,p.c,.slice A' l1 ca'] 43 (0,0)):=(hmv3.block wr.heap.size (by rw[HS2.out];omega) (fun hj=>by have:=hyw _ hj;omega)).trans HQ3;have hbk3:W3.heap[kb]?=some (.cells #[.func (.func 35) #[] #[]] 80 (0,0)):=by
       have h:=HW.out;have h1:=(h.sel HW2).2.1 kb (by have:=h.lt;have:=h.bs;omega) (by have:=h.lt;have:=HBG.out;omega);exact (hmv3.block kb (by have:=h.lt;have:=h.bs;rw[HS2.out];omega) h.nl.2).trans (h1.trans h.bk)
      have hxat3:Nd.at_ W3 (OkI W3 Y3 (some ⟨g,0,none⟩)) .ty x:=by
       have h:=HW.out;have h2:=(h.sel HW2).2.1;refine HX.2.keep (fun j hj=>(hmv3.block j (by have:=hj.1;rw[HS2.out];omega) hj.2.1).trans (h2 j hj.1 (fun e=>hj.2.2 0 (by rw[e])))) (fun j hj=>OkI.step (by have:=hmv3.size;rw[HS2.out]at this;omega) (fun j hj=>(hy3 j hj).2.imp id (fun h=>by rw[HS2.out]at h;omega)) (fun j o e=> .inl ⟨o,e⟩) hj)
      rw[Nd.at_,HXD.out]at hxat3;simp only at hxat3;have hek:Calls Tryz.prog 35 #[.agg #[.int .u8 k,SS,.int .u8 n,p.a,p.l,p.c,.slice A' l1 ca']] W3 ((StR (.slice A' l1 ca') W3)):=by
       rw[HSS.out];exact qat k s n p A' l1 ca' W3
      have HKT3:=hid hxat3.1;have HAR:Hid (arms=.nil):=hid (by
       rcases hxat3.2 with ⟨e,_⟩ | ⟨_,e⟩
       ·cases e
       ·exact Tr.len_nil _ e)
      have HEK:=hid hek;have HMV3:=hid hmv3;have HY3:=hid hy3;have HJ3:=hid hj3;have c0:=QQ hbk3;obtain⟨x0,x1,x2,x3,x4,x5,x6⟩:=box7 hq3;have eg:∀ args w,(callFunc 35 args).run Tryz.prog w=.ok (.enter 35 args) w:=fun args w=>by kernel_rfl
      clear hek hmv3 hy3 hj3 hbk3 hq3 hyw hxat3;gi_wp2_with (first | (gi_at_builtin;refine QJ ?_) | (refine⟨trivial,?_⟩;gi_at_call 35;refine (callsIn_wide.2 HEK).mono ?_;rintro e W4 ⟨rfl,hb4⟩));have hrow4:=WSt.row3 HW HMM HW2 hgl HMV3 hb4;have HROW4:=hid hrow4;have HB4:=hid hb4;have hmb:=HVS.2;have hbs4:base<=W4.heap.size:=by have:=HW.out.bs;have:=HMV3.size;have:=HS2.out;have:=hb4.size;omega
      have HK4:Hid (KidsTr W4 (qbW W3 (OkI W3 Y3 (some ⟨g,0,none⟩)) W4) .ty A' kids.len ca' kids):=hid ((HKT3.keep fun j hj=>hb4.block j hj.1).wide fun j hj=> .inl hj);have HPRE:Hid (∀ d,kids.pre d=kids.pre d++arms.pre d):=hid (fun d=>by rw[HAR.out];simp[Tr.pre]);obtain⟨kl,hkl⟩:=nW l1;rw[<- hkl];have HKL:Hid (kl=kids.len):=hid (by rw[hkl];exact HL1);obtain⟨A5,hA5⟩:=nW A';obtain⟨c5,hc5⟩:=nW ca';rw[<- hA5,<- hc5]at HK4 ⊢;clear hA5 hc5;clear hrow4 hb4 c0 x0 x1 x2 x3 x4 x5 x6 hkl;unfold Qv;refine wpListIn_append_own_at _ rfl _ _ 155 rfl base 41 i0 (.slice none 0 0) 1 24 Tryz.underlying155 hi0 hz0 hz1 hz2 rfl (by decide) (.slice (some ⟨g,0,none⟩) (mm+1) cc) (mm+1) _ rfl (HROW4.alloc _) ⟨W4.heap.size,0,none⟩ 1 1 [.slice A5 kl c5] rfl rfl (fun j u hu=>by rw[Addr.add_lit,Nat.zero_add];exact za _ _ _ j u hu) (by simp[Value.oneCell']) (by unfold maxLen;omega) (by omega) (by simp;omega) ?_;intro v' w5 hown5 hg5 _ hat5;obtain⟨g5,c6,rfl,hws⟩:=WSt.next HJ HW HMM rfl HX.1 HRES HW2 hgl HBG HMV3 HY3 HJ3 HB4 (K:=⟨A5,c5,kids⟩) HK4 HPRE (by rw[HBS.out];exact lR _) (by have h:=hown5;rw[HKL.out]at h;exact h) hg5 hat5;have HWS:=hid hws;clear hown5 hg5 hat5 hws;gi_wp2;go_roundw
      case rel=>exact⟨_,_,_,_,_,_,_,rfl,HWS,rfl⟩
      case measure=>
       refine Nat.lt_of_le_of_lt ((leastOf_spec ⟨_,_,_,_,_,_,_,rfl,HWS,rfl⟩).2 _ ⟨_,_,_,_,_,_,rfl,HWS,rfl⟩) ?_;rw[<- HGK.out,HMS.out];simp only[msS,Tr.size];omega
     ·have HJX:=hid hjx3
      have HM3:=hid (And.intro hmv3 hy3);clear hmv3 hy3 hjx3;gi_wp2
      (try simp only[Exit.inBlock,Exit.then])
      refine bodyPost_ret (results_none rfl _ _ _) rfl ?_;have s4:=(HW.out.sel HW2).2.2.2;have z2:=HS2.out;have zb:=HW.out.bs;refine⟨⟨_,rfl⟩,?_,pre++[x],Y3,fun j hj=>⟨(HM3.2 j hj).1,?_⟩,.inr HJX⟩
      ·exact ((HW.out.mv.trans s4 (fun j hj=> .inr (by have:=HBG.out;have:=HBS.out;omega))).trans HM3.1 (fun j hj=>(HW.out.yl j hj).2))
      ·rcases (HM3.2 j hj).2 with h' | h'
       ·exact (HW.out.yl j h').2
       ·right;have:=HBS.out;omega
    ·have hres:KidsTr wr (OkI wr Y (some ⟨g,0,none⟩)) .ty (some ⟨b,o+7,none⟩) rest.len (fc-1) rest:=⟨rfl,by rw[<- HRL.out];omega,fun _=>⟨b,o+7,rfl,HOB,HP.2.2⟩⟩
     have HRES:=hid hres;obtain⟨W2,hW2⟩:=nW ((wr.setCell ⟨g,mm,none⟩ (.slice (some ⟨b,o+7,none⟩) rest.len (fc-1))).alloc (.cells #[.int .u8 k,SS,.int .u8 n,p.a,p.l,p.c,.slice A' l1 ca'] 43));obtain⟨hpre,hj2,hyl2⟩:=WSt.hand HJ HW HMM rfl HX.1 HX.2 hW2;obtain⟨q1,q2,q3,q4⟩:=HW.out.sel hW2;have HQ3:=hid q3;obtain⟨fn,tmps,assign,body,hy,hR⟩:=HY.out pre x Y W2 hpre (HW.out.mv.trans q4 (fun j hj=> .inr (by have:=HBG.out;have:=HBS.out;omega))) hj2 hyl2;rw[HENC.out]at hy;have HW2:=hid hW2;have hrl:=HRL.out;rw[<- hrl]at hW2;rw[hW2]at hy hR;have HW2':=hid hW2;have HS2:Hid (W2.heap.size=wr.heap.size+1):=hid q1;clear hres hpre hj2 hyl2 q1 q2 q3 q4 hW2 hrl;gi_wp2;refine hR.mono ?_;clear hR hy;rw[<- HW2'.out];rintro e W3 ⟨hmv3,Y3,hy3,⟨rfl,hj3⟩ | ⟨rfl,hjx3⟩⟩
     ·have hyw:∀ j,Y j->j<wr.heap.size:=fun j hj=>(HW.out.yl j hj).1
      have hq3:W3.heap[wr.heap.size]?=some (.cells #[.int .u8 k,SS,.int .u8 n,p.a,p.l,p.c,.slice A' l1 ca'] 43 (0,0)):=(hmv3.block wr.heap.size (by rw[HS2.out];omega) (fun hj=>by have:=hyw _ hj;omega)).trans HQ3;have hbk3:W3.heap[kb]?=some (.cells #[.func (.func 35) #[] #[]] 80 (0,0)):=by
       have h:=HW.out;have h1:=(h.sel HW2).2.1 kb (by have:=h.lt;have:=h.bs;omega) (by have:=h.lt;have:=HBG.out;omega);exact (hmv3.block kb (by have:=h.lt;have:=h.bs;rw[HS2.out];omega) h.nl.2).trans (h1.trans h.bk)
      have hxat3:Nd.at_ W3 (OkI W3 Y3 (some ⟨g,0,none⟩)) .ty x:=by
       have h:=HW.out;have h2:=(h.sel HW2).2.1;refine HX.2.keep (fun j hj=>(hmv3.block j (by have:=hj.1;rw[HS2.out];omega) hj.2.1).trans (h2 j hj.1 (fun e=>hj.2.2 0 (by rw[e])))) (fun j hj=>OkI.step (by have:=hmv3.size;rw[HS2.out]at this;omega) (fun j hj=>(hy3 j hj).2.imp id (fun h=>by rw[HS2.out]at h;omega)) (fun j o e=> .inl ⟨o,e⟩) hj)
      rw[Nd.at_,HXD.out]at hxat3;simp only at hxat3;have hek:Calls Tryz.prog 35 #[.agg #[.int .u8 k,SS,.int .u8 n,p.a,p.l,p.c,.slice A' l1 ca']] W3 ((StR (.slice A' l1 ca') W3)):=by
       rw[HSS.out];exact qat k s n p A' l1 ca' W3
      have HKT3:=hid hxat3.1;have HAR:Hid (arms=.nil):=hid (by
       rcases hxat3.2 with ⟨e,_⟩ | ⟨_,e⟩
       ·cases e
       ·exact Tr.len_nil _ e)
      have HEK:=hid hek;have HMV3:=hid hmv3;have HY3:=hid hy3;have HJ3:=hid hj3;have c0:=QQ hbk3;obtain⟨x0,x1,x2,x3,x4,x5,x6⟩:=box7 hq3;have eg:∀ args w,(callFunc 35 args).run Tryz.prog w=.ok (.enter 35 args) w:=fun args w=>by kernel_rfl
      clear hek hmv3 hy3 hj3 hbk3 hq3 hyw hxat3;gi_wp2_with (first | (gi_at_builtin;refine QJ ?_) | (refine⟨trivial,?_⟩;gi_at_call 35;refine (callsIn_wide.2 HEK).mono ?_;rintro e W4 ⟨rfl,hb4⟩));have hrow4:=WSt.row3 HW HMM HW2 hgl HMV3 hb4;have HROW4:=hid hrow4;have HB4:=hid hb4;have hmb:=HVS.2;have hbs4:base<=W4.heap.size:=by have:=HW.out.bs;have:=HMV3.size;have:=HS2.out;have:=hb4.size;omega
      have HK4:Hid (KidsTr W4 (qbW W3 (OkI W3 Y3 (some ⟨g,0,none⟩)) W4) .ty A' kids.len ca' kids):=hid ((HKT3.keep fun j hj=>hb4.block j hj.1).wide fun j hj=> .inl hj);have HPRE:Hid (∀ d,kids.pre d=kids.pre d++arms.pre d):=hid (fun d=>by rw[HAR.out];simp[Tr.pre]);obtain⟨kl,hkl⟩:=nW l1;rw[<- hkl];have HKL:Hid (kl=kids.len):=hid (by rw[hkl];exact HL1);obtain⟨A5,hA5⟩:=nW A';obtain⟨c5,hc5⟩:=nW ca';rw[<- hA5,<- hc5]at HK4 ⊢;clear hA5 hc5;clear hrow4 hb4 c0 x0 x1 x2 x3 x4 x5 x6 hkl;unfold Qv;refine wpListIn_append_own_at _ rfl _ _ 155 rfl base 41 i0 (.slice none 0 0) 1 24 Tryz.underlying155 hi0 hz0 hz1 hz2 rfl (by decide) (.slice (some ⟨g,0,none⟩) (mm+1) cc) (mm+1) _ rfl (HROW4.alloc _) ⟨W4.heap.size,0,none⟩ 1 1 [.slice A5 kl c5] rfl rfl (fun j u hu=>by rw[Addr.add_lit,Nat.zero_add];exact za _ _ _ j u hu) (by simp[Value.oneCell']) (by unfold maxLen;omega) (by omega) (by simp;omega) ?_;intro v' w5 hown5 hg5 _ hat5;obtain⟨g5,c6,rfl,hws⟩:=WSt.next HJ HW HMM rfl HX.1 HRES HW2 hgl HBG HMV3 HY3 HJ3 HB4 (K:=⟨A5,c5,kids⟩) HK4 HPRE (by rw[HBS.out];exact lR _) (by have h:=hown5;rw[HKL.out]at h;exact h) hg5 hat5;have HWS:=hid hws;clear hown5 hg5 hat5 hws;gi_wp2;go_roundw
      case rel=>exact⟨_,_,_,_,_,_,_,rfl,HWS,rfl⟩
      case measure=>
       refine Nat.lt_of_le_of_lt ((leastOf_spec ⟨_,_,_,_,_,_,_,rfl,HWS,rfl⟩).2 _ ⟨_,_,_,_,_,_,rfl,HWS,rfl⟩) ?_;rw[<- HGK.out,HMS.out];simp only[msS,Tr.size];omega
     ·have HJX:=hid hjx3
      have HM3:=hid (And.intro hmv3 hy3);clear hmv3 hy3 hjx3;gi_wp2
      (try simp only[Exit.inBlock,Exit.then])
      refine bodyPost_ret (results_none rfl _ _ _) rfl ?_;have s4:=(HW.out.sel HW2).2.2.2;have z2:=HS2.out;have zb:=HW.out.bs;refine⟨⟨_,rfl⟩,?_,pre++[x],Y3,fun j hj=>⟨(HM3.2 j hj).1,?_⟩,.inr HJX⟩
      ·exact ((HW.out.mv.trans s4 (fun j hj=> .inr (by have:=HBG.out;have:=HBS.out;omega))).trans HM3.1 (fun j hj=>(HW.out.yl j hj).2))
      ·rcases (HM3.2 j hj).2 with h' | h'
       ·exact (HW.out.yl j h').2
       ·right;have:=HBS.out;omega
section
variable {P : Program} {ops : Array Oper} {Q : Exit -> Act -> World -> Prop}
theorem qfT{l n:Nat}{row:String}{args:Array Value}{w:World}{R:Value->World->Prop}(h:Rows P row args w R):RowsIn (Fence.wide.inRound l) n P row args w R:=
 fun c cs _=>let ⟨v,w',r,s⟩:=h c cs;⟨v,w',r,stepsIn_wide.2 s⟩
theorem qdQ{l n:Nat}{o:Oper}{a:Act}{w:World}{K:Act->World->Prop}(hnd:∀ c,o.op ≠ .defer c)(_hQ:¬ LetsOut Q)(h:o.wp P a w K Q):o.wpIn (Fence.wide.inRound l) n P a w K Q:=by
 refine⟨fun _ _=>trivial,?_⟩;rw[Oper.semAt_eq _ _ _ hnd];unfold Oper.wp at h;generalize (execOp a.eval o).run P w=r at *;cases r with
 | ok n w'=>
  cases n <;> simp only[Oper.upon,Oper.uponIn]at h ⊢
  case value v=>exact h
  case skip=>exact h
  case defer d=>exact h
  case enter f args=>
   refine⟨(fun hd=>by cases hd),CallsIn.inRound l (callsIn_wide.2 (h.mono ?_))⟩;intro e w'' he;cases e <;> exact he
  case row row args=>exact⟨(fun hd=>by cases hd),qfT h⟩
 | halt x w'=>cases x <;> simp only[Oper.upon,Oper.uponIn]at h ⊢ <;> exact h
def qaP(ops:Array Oper):Bool:=ops.all fun o=>match o.op with
 | .defer _=>false
 | _=>true
theorem qbt(h:qaP ops=true){i:Nat}{o:Oper}(ho:ops[i]?=some o):∀ c,o.op ≠ .defer c:=fun c e=>by
 have:=Array.all_eq_true'.1 h o (Array.mem_of_getElem? ho);rw[e]at this;cases this
theorem jV{l n:Nat}(hnd:qaP ops=true)(hQ:¬ LetsOut Q):∀ (is:List Nat) (a:Act) (w:World),wpOps P ops Q is a w->wpOpsIn (Fence.wide.inRound l) n P ops Q is a w
 | [],_,_,h=>h
 | i::is,a,w,h=>by
  simp only[wpOps,wpOpsIn]at h ⊢;cases ho:ops[i]? with
  | none=>rw[ho]at h;exact jV hnd hQ is a w h
  | some o=>
   rw[ho]at h;simp only at h ⊢;split at h
   ·rename_i hw
    rw[if_pos hw];rcases h with h | h
    ·exact qdQ (qbt hnd ho) hQ (Oper.wp_mono (fun a' w' h'=>jV hnd hQ is a' w' h') h)
    ·exact absurd h.2 hQ
   ·rename_i hw
    rw[if_neg hw];exact⟨fun _ _=>trivial,jV hnd hQ is _ w h⟩
theorem qbx{id l n:Nat}{a:Act}{w:World}(hm:P.follows .mixedOrders=true)(hnd:qaP ops=true)(hQ:¬ LetsOut Q)
  (h:wpAny P .any ops Q ops.size (Array.replicate ops.size false) a w.drew):(Code.region id ops true).wpIn (Fence.wide.inRound l) n P Q a w:=
 wpIn_region_draw fun t=>by
  simp only[Region.schedule,hm,Bool.true_or,if_true];exact jV hnd hQ _ _ _ (wpAny_sound ops.size t _ a _ h)
end
section
variable {P : Program}
theorem J1{C:World->Prop}{Q:Exit->Act->World->Prop}{a:Act}{w:World}{l:List Oper}(n:Nat)(hB:Region.lexTailB .any l.toArray n=true)(hC:C w.drew)
  (h:wpQuiet P l.toArray C (fun a'=>∀ w',C w'->wpList P l.toArray Q (l.drop n) a' w') (l.take n) a):wpAny P .any l.toArray Q l.toArray.size (Array.replicate l.toArray.size false) a w.drew:=by
 simp only[Region.lexTailB,bA,pE]at hB;obtain⟨⟨⟨⟨hsel,hn⟩,hs⟩,hc⟩,hlex⟩:=hB;have hn':n<l.length:=by simpa using hn
 have htl:(l.take n).length=n:=by simp;omega
 have hdl:(l.drop n).length=l.toArray.size-n:=by simp
 have inv0:HeadInv .any l.toArray n (Array.replicate l.toArray.size false):=
  ⟨by simp,fun j oj _ hl=>(by rw[getD_replicate_false]at hl;cases hl),fun t _ ht=>getD_in (by simpa using ht) (getD_replicate_false _ _)⟩
 have H:=ZC (md:= .any) (g:=l.toArray.size-n) hsel hs hc hn (l.take n) 0 _ a (fun j hj=>by
  have hj':j<n:=by rw[htl]at hj;exact hj
  simp[hj']) (by simpa using htl) inv0 (by rw[htl];exact hlex) h
 have:=ZD (Q':=Q) (g:=l.toArray.size-n) (fun listed a' w' hw' hL=>by
  have:=wpAny_of_seq (md:= .any) (Q':=Q) (l.drop n) n listed a' w' (fun j=>by simp[List.getElem?_drop]) (by rw[hdl];exact hL.1) (hL.2 w' hw');rwa [hdl]at this) _ _ _ w.drew hC H
 rw[htl,show n+(l.toArray.size-n)=l.toArray.size by omega]at this;exact this
theorem zV{id L m:Nat}{Q:Exit->Act->World->Prop}{a:Act}{w:World}{l:List Oper}(n:Nat)(hm:P.follows .mixedOrders=true)(hnd:qaP l.toArray=true)(hQ:¬ LetsOut Q)(hB:Region.lexTailB .any l.toArray n=true)
  (h:wpQuiet P l.toArray (fun w'=>∃ n:Abw w,w'=n.wd) (fun a'=>∀ w',(∃ n:Abw w,w'=n.wd)->wpList P l.toArray Q (l.drop n) a' w') (l.take n) a):(Code.region id l.toArray true).wpIn (Fence.wide.inRound L) m P Q a w:=
 qbx hm hnd hQ (J1 n hB ⟨⟨_,(Bel.refl w).drew⟩,rfl⟩ h)
end
set_option maxHeartbeats 4000000
theorem JM(A:OA)(n c:Nat)(w:World):Calls Tryz.prog 84 #[.slice A n c,.func (.func 35) #[] #[]] w fun e w'=>e=.returned (.func (.func 112) #[] #[.pointer (some ⟨w.heap.size,0,none⟩),.pointer (some ⟨w.heap.size+1,0,none⟩)])/\w'=(w.alloc (.cells #[.slice A n c] 41)).alloc (.cells #[.func (.func 35) #[] #[]] 80):=by
 go_enter Tryz.func84,Tryz.ntmps84;go_wp2;go_ret;exact⟨rfl,rfl⟩
theorem qe8(k:Int)(s:LU)(n:Int)(p:Pl)(A:OA)(l c:Nat)(w:World):Calls Tryz.prog 36 #[.agg #[.int .u8 k,.string ⟨s.toArray⟩,.int .u8 n,p.a,p.l,p.c,.slice A l c]] w (StR (.int .i64 1) w):=by
 go_enter Tryz.func36,Tryz.ntmps36;go_wp2;go_ret;exact⟨rfl,(Bel.refl w).alloc _⟩
theorem qdz(A:OA)(n c:Nat)(f:Tr)(w:World)(hk:KidsTr w (OldT w) .ty A n c f)(hsz:f.size<=1000000) :
  Calls Tryz.prog 33 #[.slice A n c,.func (.func 35) #[] #[],.func (.func 36) #[] #[]] w (StR (.int .i64 (f.depth:Int)) w):=by
 have HK:=hid hk;clear hk;refine (callsIn_wide (n:=6)).1 ?_;refine callsIn_of_wp_marks Tryz.func33 rfl trivial ?_ rfl;simp only[Tryz.ntmps33,List.size_toArray,lC,lNn,Nat.reduceAdd,Nat.reduceSub,Array.replicate_succ,Array.replicate_zero,List.push_toArray,List.append_toArray,List.nil_append,cAa];gi_wp2_with (refine⟨trivial,?_⟩;gi_at_call 84;refine (callsIn_wide.2 (JM _ _ _ _)).mono ?_;rintro e w2 ⟨rfl,rfl⟩);obtain⟨hb,hhb⟩:=nW w.heap.size;obtain⟨wq,hwq⟩:=nW ((((w.alloc (.cells #[.func (.func 36) #[] #[]] 81)).alloc (.cells #[.int .i64 0] 3)).alloc (.cells #[.slice A n c] 41)).alloc (.cells #[.func (.func 35) #[] #[]] 80));have hbq:Bel w wq:=by rw[hwq];exact ((((Bel.refl w).alloc _).alloc _).alloc _).alloc _
 have hsq:wq.heap.size=hb+4:=by rw[hwq,hhb];simp
 have hq4:=blk4 w (.cells #[.func (.func 36) #[] #[]] 81) (.cells #[.int .i64 0] 3) (.cells #[.slice A n c] 41) (.cells #[.func (.func 35) #[] #[]] 80);rw[<- hwq,<- hhb]at hq4;obtain⟨q0,q1,q2,q3⟩:=hq4;replace q0:Boxed wq hb 81 (.func (.func 36) #[] #[]):=q0;replace q1:Boxed wq (hb+1) 3 (.int .i64 0):=q1;replace q2:Boxed wq (hb+2) 41 (.slice A n c):=q2;replace q3:Boxed wq (hb+3) 80 (.func (.func 35) #[] #[]):=q3;rw[<- hwq,<- hhb];have HBQ:=hid hbq;have HHB:=hid hhb;have HSQ:=hid hsq;have Q0:=hid q0;have Q1:=hid q1;have Q2:=hid q2;have Q3:=hid q3;clear hwq hbq hsq q0 q1 q2 q3 hhb;refine jd (α:=Nd) (gf:=112) (lb:=#[.pointer (some ⟨hb+2,0,none⟩),.pointer (some ⟨hb+3,0,none⟩)]) rfl (fun args w=>by kernel_rfl) (encs:=encT) (JN A n c (hb+2) (hb+3) f hsz) (fun _=>rfl)
  (fun pre x Y W W' h hs hk=>⟨h.1,h.2.keep (fun j hj=>hk j hj.1 hj.2) (fun j hj=>⟨lT hj.1 hs,hj.2⟩)⟩)
  (fun xs Y W=>(∀ k,Y k↔(k=hb∨k=hb+1))/\Boxed W hb 81 (.func (.func 36) #[] #[])/\Boxed W (hb+1) 3 (.int .i64 (vmax hdE 0 (xs.map Nd.v):Nat))/\hb+4<=W.heap.size) (fun _ _ _=>False) ?_ (fun _ _ _ _ h _ _=>h)
  (Y0:=fun k=>k=hb∨k=hb+1) ?_ (fun k hk=>by have:=HSQ.out;omega) ⟨fun _=>Iff.rfl,Q0.out,Q1.out,by rw[HSQ.out];exact lR _⟩
  (fun x bx=>{ tmps:=#[.slice A n c,.func (.func 35) #[] #[],.func (.func 36) #[] #[],undef,undef,.pointer (some ⟨hb,0,none⟩),(0:Int),.pointer (some ⟨hb+1,0,none⟩),x.v.d,.pointer (some ⟨bx,0,none⟩),.slice A n c,.func (.func 35) #[] #[],.func (.func 112) #[] #[.pointer (some ⟨hb+2,0,none⟩),.pointer (some ⟨hb+3,0,none⟩)],x.v.d,.agg #[.int .u8 x.v.k,.string ⟨x.v.s.toArray⟩,.int .u8 x.v.n,x.p.a,x.p.l,x.p.c,.slice x.A x.v.kids.len x.ca],undef,undef,undef,undef,undef,undef,undef,undef],defers:=[] })
  (fun x=> .cells #[.int .u8 x.v.k,.string ⟨x.v.s.toArray⟩,.int .u8 x.v.n,x.p.a,x.p.l,x.p.c,.slice x.A x.v.kids.len x.ca] 43) ?_ ?_ ?_ ?_
 ·rintro s Y W W' ⟨h1,h2,h3,h4⟩ hs hk
  exact⟨h1,(hk hb ((h1 hb).2 (.inl rfl))).trans h2,(hk (hb+1) ((h1 _).2 (.inr rfl))).trans h3,lL h4 hs⟩
 ·rintro Y W hbW hY
  have hn:∀ j,Y j->hb<=j/\j≠hb+2/\j≠hb+3:=fun j hj=>by
   have:=HSQ.out;rcases hY j hj with (h | h) | h <;> omega
  refine⟨hbW.blk Q2.out,hbW.blk Q3.out,(HK.keep (fun j hj=>(HBQ.on hbW).block j hj)).wide (fun j hj=>⟨lT hj (HBQ.on hbW).size,fun h=>?_⟩),fun h=>(hn _ h).2.1 rfl,fun h=>(hn _ h).2.2 rfl⟩;have h1:=(hn j h).1;have h2:j<w.heap.size:=hj;rw[HHB.out]at h1;omega
 ·rintro l x W K hK
  have HKK:=hid hK;clear hK;simp only[encT];gi_wp2;exact HKK
 ·rintro l bx pre x Y W hbx1 hbx2 hob hYb ⟨Y',hYY,⟨suf,hpre⟩,hat⟩ hmv0 hYl ⟨hY,hi1,hi2,hi3⟩ hYs
  have hmem:x.v∈f.pre 0:=by rw[hpre];simp
  have hvs:=Tr.pre_size f 0 x.v hmem;have HVS:Hid (x.v.kids.size+x.v.arms.size<=1000000/\x.v.d<=1000000):=hid (by omega);have HAT:=hid hat;have HYS:=hid hYs;have HY:=hid hY;have HYY:=hid hYY;have HI1:=hid hi1;have HI2:=hid hi2;have HI3:=hid hi3;have HBX:=hid hbx1;obtain⟨m,hm⟩:=nW (vmax hdE 0 (pre.map Nd.v));rw[<- hm]at HI2 hi2;have HM:=hid hm;obtain⟨xv,xp,xA,xca,xB,xcb⟩:=x;obtain⟨d,k,s,nn,kids,arms⟩:=xv;obtain⟨l1,hl1⟩:=nW kids.len;obtain⟨l2,hl2⟩:=nW arms.len;obtain⟨SS,hSS⟩:=nW (⟨s.toArray⟩:BA);obtain⟨hv,hhv⟩:=nW (hdE ⟨d,k,s,nn,kids,arms⟩);have HHV:=hid hhv;simp only at HAT HVS hob ⊢;have har:arms=.nil:=by
   rcases HAT.2 with ⟨e,_⟩ | ⟨_,e⟩
   ·cases e
   ·exact Tr.len_nil _ e
  have hv1:hv=1:=by rw[hhv,har];rfl
  have HC:Hid (∀ W',Bel W W'->Calls Tryz.prog 36 #[.agg #[.int .u8 k,.string ⟨s.toArray⟩,.int .u8 nn,xp.a,xp.l,xp.c,.slice xA kids.len xca]] W' (StR (.int .i64 (hv:Int)) W')):=hid fun W' _=>by
   rw[hv1];exact qe8 k s nn xp xA kids.len xca W'
  have HV1:=hid hv1;clear hv1 har;simp only[<- hl1,<- hSS]at hob HC ⊢;have hvb:hv<=1000001:=by have:=HV1.out;omega
  have hdb:d<=1000000:=HVS.2;obtain⟨x0,x1,x2,x3,x4,x5,x6⟩:=box7 hob;have eg:∀ args w,(callFunc 36 args).run Tryz.prog w=.ok (.enter 36 args) w:=fun args w=>by kernel_rfl
  have y0:=qd hbx2 x0;have y1:=qd hbx2 x1;have y2:=qd hbx2 x2;have y3:=qd hbx2 x3;have y4:=qd hbx2 x4;have y5:=qd hbx2 x5;have y6:=qd hbx2 x6;have z0:=qd (by have:=HI3.out;omega) hi1.cell;have z1:=qd (by have:=HI3.out;omega) hi2.cell;clear hmv0 hpre hmem hvs hat hYs hY hYY hi1 hi2 hi3 hob hYl hbx1 hYb hl1 hl2 hSS hhv hm;gi_wp2_with fail;refine zV 7 (by kernel_rfl) (by kernel_rfl) (fun ⟨_,_,h⟩=>h) (by kernel_rfl) ?_;simp only[List.take_succ_cons,List.take_zero,jF,jG];repeat (go_big_quiet_step (exact (HC _ (Abw.bel _)).mono fun e w h=>⟨h.1,⟨_,(Abw.bel _).on h.2⟩,rfl⟩))
  refine wpQuiet_nil ?_;rintro w4 ⟨⟨w4,hb4⟩,rfl⟩;have HB4:=hid hb4;have f1:w4.cell? ⟨hb+1,0,none⟩=some (.int .i64 (m:Int)):=z1 ⟨w4,hb4⟩;have f2:w4.frozen? ⟨hb+1,0,none⟩=false:=Boxed.frozen (hb4.blk HI2);clear z0 z1 x0 x1 x2 x3 x4 x5 x6 y0 y1 y2 y3 y4 y5 y6;go_wp2_with fail;have hB1:Boxed w4 hb 81 (.func (.func 36) #[] #[]):=HB4.blk HI1;have hB2:Boxed w4 (hb+1) 3 (.int .i64 (m:Int)):=HB4.blk HI2;refine⟨Mv.set_ (p:=⟨hb+1,0,none⟩) (Mv.of_bel HB4) (.inl ((HY (hb+1)).2 (.inr rfl))) _,Y,⟨HY,hB1.other (by omega) _,?_,by have:=HB4.size;have:=HI3.out;simp;omega⟩,fun j hj=>⟨by have:=HB4.size;have:=HYS.out j hj;simp;omega,.inl hj⟩⟩;have e:((vmax hdE 0 (List.map Nd.v (pre++[⟨⟨d,k,s,nn,kids,arms⟩,xp,xA,xca,xB,xcb⟩])):Nat):Int)=max (m:Int) ((d:Int)+(hv:Int)):=by
   rw[List.map_append,List.map_cons,List.map_nil,JJ,<- HM.out,<- HHV.out];simp only;omega
  rw[e];exact hB2.set _
 ·rintro D xs Y W hD hfin ⟨hY,hi1,hi2,hi3⟩ hmv hYs hDd hYD
  have HI:=hid hi2;have HFIN:=hid hfin;have HMV:=hid hmv;have HDD:=hid hDd;have HDL:=hid hD;have c1:=hi2.cell;clear hY hi1 hi2 hi3 hmv hYs hDd hYD hfin hD;simp only[Exit.inBlock,Exit.then];gi_wp2;refine qQ HDD (fun w' hmw=>⟨_,results_tmp rfl _ _ _,?_⟩);refine⟨?_,?_⟩
  ·have hk':=HK.out
   rw[show f.depth=vmax hdE 0 (xs.map Nd.v) by rw[HFIN.out,Tr.depth_pre f (hk'.isNods (by intro e;cases e)) hk'.ok]];rfl
  ·have h1:Mv (fun k=>k=hb∨k=hb+1) w W:=(Mv.of_bel HBQ).trans HMV (fun j hj=> .inl hj)
   have h2:Mv (fun _=>False) w W:=⟨h1.os,h1.tape,h1.output,h1.size,fun j hj _=>h1.block j hj (by have:=HHB.out;omega)⟩
   exact (h2.trans hmw (fun j hj=> .inr (by have:=HDL.out;have:=HBQ.size;omega))).bel
 ·rintro D xs Y W _ h
  exact h.elim
def encX(x:Nd):Array Value:=#[.int .i64 x.v.d,.agg #[.int .u8 x.v.k,.string ⟨x.v.s.toArray⟩,.int .i64 x.v.n,.int .i64 x.p.a,.int .i64 x.p.l,.int .i64 x.p.c,.slice x.A x.v.kids.len x.ca,.slice x.B x.v.arms.len x.cb]]
theorem qe5:(Tryz.prog.info? 25).map (fun i=>(i.zero,i.size,i.bytes))=some (some (.slice none 0 0),1,24):=by kernel_rfl
theorem JP(A0:OA)(n0 c0 lb kb:Nat)(f0:Tr)(hsz:f0.size<=1000000) :
  SeqL Tryz.prog 104 #[.pointer (some ⟨lb,0,none⟩),.pointer (some ⟨kb,0,none⟩)] encX
   (fun Y W=>W.heap[lb]?=some (.cells #[.slice A0 n0 c0] 25 (0,0))/\W.heap[kb]?=some (.cells #[.func (.func 25) #[] #[]] 71 (0,0))/\KidsTr W (fun j=>j<W.heap.size/\¬ Y j) .ex A0 n0 c0 f0/\¬ Y lb/\¬ Y kb)
   (fun pre x Y W=>(∃ suf,f0.pre 0=pre.map Nd.v++x.v::suf)/\x.at_ W (fun j=>j<W.heap.size/\¬ Y j) .ex)
   (fun xs=>xs.map Nd.v=f0.pre 0):=by
 intro l J Jx Y0 W0 hok hY0 hJ hJx hY h0;obtain⟨hlb,hkb,hkt,hnl,hnk⟩:=hok;have HLB:=hid hlb;have HKB:=hid hkb;have HKT:=hid hkt;have HNL:=hid (And.intro hnl hnk);have HY0:=hid hY0;have HJ:=hid hJ;have HY:=hid hY;have H0:=hid h0;have z0:=QQ hlb;obtain⟨i0,hi0,hz0,hz1,hz2⟩:=info_parts qe5;have HL0:Hid (n0=f0.len):=hid hkt.1;clear hlb hkb hkt hnl hnk hY0 hJ hJx hY h0;refine (callsIn_wide (n:=6)).1 ?_;refine callsIn_of_wp Tryz.func104 rfl trivial ?_ rfl;simp only[Tryz.ntmps104,List.size_toArray,lC,lNn,Nat.reduceAdd,Nat.reduceSub,Array.replicate_succ,Array.replicate_zero,List.push_toArray,List.append_toArray,List.nil_append,cAa];gi_wp2;obtain⟨base,hbase⟩:=nW W0.heap.size;obtain⟨w1,hw1⟩:=nW (W0.alloc (.cells #[.slice A0 n0 c0] 25));have hb1:Bel W0 w1:=by rw[hw1];exact (Bel.refl W0).alloc _
 have hq1:w1.heap[base]?=some (.cells #[.slice A0 n0 c0] 25 (0,0)):=by rw[hw1,hbase];exact blk1 W0 _
 have hs1:w1.heap.size=base+1:=by rw[hw1,hbase];simp
 rw[<- hw1,<- hbase];have hlt:lb<base/\kb<base:=by rw[hbase];exact⟨(aJ.1 HLB).1,(aJ.1 HKB).1⟩
 have HST:Hid (WSt 25 25 71 25 .ex f0 J lb kb base (.slice A0 n0 c0) Y0 W0 (some ⟨base,0,none⟩) 1 1 [⟨A0,c0,f0⟩] [] Y0 w1):=hid (by
  refine⟨rfl,⟨rfl,.inr ⟨base,1,_,rfl,lR _,hq1,lR _,by unfold maxLen;omega,rfl,?_⟩⟩,fun j o e hy=>?_,hb1.blk HLB,hb1.blk HKB,hlt,HNL,?_,HJ _ _ _ _ H0 hb1.size (fun j hj=>hb1.block j (HY0 j hj)),fun j hj=>⟨lT (HY0 j hj) hb1.size,.inl hj⟩,Mv.of_bel hb1,by omega,?_⟩
  ·simp[itV,It.val,<- HL0.out]
  ·cases e;have:=HY0.out _ hy;omega
  ·intro x hx
   simp at hx;subst hx;have hk:=HKT.out;rw[HL0.out]at hk;refine (hk.keep fun j hj=>hb1.block j hj.1).wide fun j hj=>⟨lT hj.1 hb1.size,hj.2,fun o e=>?_⟩
   cases e;have:=hj.1;omega
  ·simp[todo])
 have HBS:=hid hbase;clear hb1 hq1 hs1 hw1 hbase z0 hlt HLB HKB HKT H0 HNL HL0;gi_loopw [4] (fun v wr=>∃ k:Nat,∃ S pre Y A cc m,v=.slice A m cc/\Hid (WSt 25 25 71 25 .ex f0 J lb kb base (.slice A0 n0 c0) Y0 W0 A cc m S pre Y wr)/\k=msS S) (fun v wr=>leastOf (fun k:Nat=>∃ S pre Y A cc m,v=.slice A m cc/\Hid (WSt 25 25 71 25 .ex f0 J lb kb base (.slice A0 n0 c0) Y0 W0 A cc m S pre Y wr)/\k=msS S))
 case atStart=>exact⟨_,_,_,_,_,_,_,rfl,HST,rfl⟩
 case round=>
  clear HST;obtain⟨gk,hgk⟩:=nW (leastOf (fun k:Nat=>∃ S pre Y A cc m,u4=.slice A m cc/\Hid (WSt 25 25 71 25 .ex f0 J lb kb base (.slice A0 n0 c0) Y0 W0 A cc m S pre Y wr)/\k=msS S));have hmin:=(leastOf_spec hrel).1;rw[<- hgk]at hmin;clear hrel;obtain⟨S,pre,Y,A,cc,m,rfl,HW,hms⟩:=hmin;have HGK:=hid hgk;have HMS:=hid hms;clear hgk hms;cases S with
  | nil=>
   have hm:m=0:=HW.out.len;subst hm;gi_wp2;go_end0;exact⟨⟨_,rfl⟩,HW.out.mv,pre,Y,HW.out.yl,.inl ⟨by have h:=HW.out.what;simpa [todo] using h.symm,HW.out.j⟩⟩
  | cons it S=>
   obtain⟨mm,hmm⟩:=nW S.length;have hm:m=mm+1:=by rw[hmm];exact HW.out.len
   subst hm;obtain⟨g,eA,hbg,hgl,hcc,hcm,hcell,hfz,hrow⟩:=qcg hmm HW.out.row;subst eA;obtain⟨fA,fc,f⟩:=it;obtain⟨fl,hfl⟩:=nW f.len;simp only[It.val,<- hfl]at hcell;have hm63:mm+1<=9223372036854775807:=by unfold maxLen at hcm;omega
   have i0':(0:Int)<=(mm:Int):=by omega
   have i1:(mm:Int)<(mm:Int)+1:=by omega
   have i4:(mm:Int)<=(cc:Int):=by omega
   have HMM:=hid hmm;have HFL:=hid hfl;have HROW:=hid hrow;clear hmm hfl hrow hcm;by_cases hf0:fl=0
   ·subst hf0
    obtain rfl:=Tr.len_nil f HFL.out.symm;have HW':Hid (WSt 25 25 71 25 .ex f0 J lb kb base (.slice A0 n0 c0) Y0 W0 (some ⟨g,0,none⟩) cc mm S pre Y wr):=hid (by
     have h:=HW.out;refine⟨HMM,HROW,h.ny,h.bl,h.bk,h.lt,h.nl,fun x hx=>h.its x (mCc _ hx),h.j,h.yl,h.mv,h.bs,?_⟩;have e:=h.what;simpa [todo,Tr.pre] using e)
    clear hbg HW HROW;gi_wp2;go_roundw
    case rel=>exact⟨_,S,pre,Y,_,_,_,rfl,HW',rfl⟩
    case measure=>
     refine Nat.lt_of_le_of_lt ((leastOf_spec ⟨_,S,pre,Y,_,_,_,rfl,HW',rfl⟩).2 (msS S) ⟨S,pre,Y,_,_,_,rfl,HW',rfl⟩) ?_;rw[<- HGK.out,HMS.out];simp only[msS];omega
   ·have hkt:=HW.out.its _ List.mem_cons_self
    obtain⟨k,s,n,p,kids,arms,rest,rfl⟩:∃ k s n p kids arms rest,f=.nod k s n p kids arms rest:=by
     have hn:=hkt.isNods (by intro e;cases e);cases f with
     | nil=>exact absurd HFL hf0
     | nod k s n p kids arms rest=>exact⟨_,_,_,_,_,_,_,rfl⟩
     | arm=>exact hn.elim
    obtain⟨b,o,eF,hob,hto⟩:=hkt.2.2 (by simp[Tr.len]);simp only at eF;subst eF;obtain⟨A',ca',B',cb',hc,hk2,ha2,hr2⟩:=hto.parts;have y0:=hc 0 _ rfl;have y1:=hc 1 _ rfl;have y2:=hc 2 _ rfl;have y3:=hc 3 _ rfl;have y4:=hc 4 _ rfl;have y5:=hc 5 _ rfl;have y6:=hc 6 _ rfl;have y7:=hc 7 _ rfl;simp only[nZz]at y0;obtain⟨rl,hrl⟩:=nW rest.len;have hfl2:fl=rl+1:=by rw[hrl];exact HFL
    subst hfl2;have hbgn:b≠g:=fun e=>hob.2.2 0 (by rw[e]);have hbl:b<wr.heap.size:=hob.1;have hfcl:rl+1<=fc:=by have:=hkt.2.1;rw[<- HFL.out]at this;exact this
    have HKT:=hid hkt;have HP:=hid (And.intro hk2 (And.intro ha2 hr2));have HOB:=hid hob;have HRL:=hid hrl;have HBG:=hid hbg;obtain⟨l1,hl1⟩:=nW kids.len;obtain⟨l2,hl2⟩:=nW arms.len;obtain⟨SS,hSS⟩:=nW (⟨s.toArray⟩:BA);rw[<- hSS]at y1;rw[<- hl1]at y6;have hl2':=hl2;try rw[<- hl2]at y7
    clear hl2';have HL1:=hid hl1;have HL2:=hid hl2;have HSS:=hid hSS;have j1:(0:Int)<((rl+1:Nat):Int):=by omega
    have j2:((rl:Int)+1==0)=false:=by simp;omega
    clear hc hkt hto hk2 ha2 hr2 hob hrl hl1 hl2 hSS hbg hf0;simp only[Sh.kd]at y2;obtain⟨x,hxd⟩:=nW (⟨⟨mm,k,s,n,kids,arms⟩,p,A',ca',B',cb'⟩:Nd);have hxv:x.v=⟨mm,k,s,n,kids,arms⟩:=by rw[hxd]
    have henc:encX x=#[.int .i64 (mm:Int),.agg #[.int .u8 k,SS,n,p.a,p.l,p.c,.slice A' l1 ca',.slice B' l2 cb']]:=by rw[hxd,HL1.out,HL2.out,HSS.out];rfl
    have hxat:x.at_ wr (OkI wr Y (some ⟨g,0,none⟩)) .ex:=by rw[hxd];exact⟨HP.1,HP.2.1⟩
    have HX:=hid (And.intro hxv hxat);have HXD:=hid hxd;have hmem:x.v∈f0.pre 0:=by
     rw[HW.out.what,hxv];simp[todo,Tr.pre,<- HMM.out]
    have hvs:=Tr.pre_size f0 0 x.v hmem;rw[hxv]at hvs;simp only at hvs;have HVS:Hid (kids.size+arms.size<=1000000/\mm<=1000000):=hid (by omega);clear hmem hvs;have HENC:=hid henc;clear hxd hxv henc hxat;by_cases hfc1:fc=1
    ·subst hfc1
     obtain rfl:rl=0:=by omega
     have hres:KidsTr wr (OkI wr Y (some ⟨g,0,none⟩)) .ex (some ⟨b,o,none⟩) rest.len 0 rest:=⟨rfl,by rw[<- HRL.out];exact lR _,fun h=>absurd h (by rw[<- HRL.out];omega)⟩
     have HRES:=hid hres;obtain⟨W2,hW2⟩:=nW ((wr.setCell ⟨g,mm,none⟩ (.slice (some ⟨b,o,none⟩) rest.len 0)).alloc (.cells #[.int .u8 k,SS,n,p.a,p.l,p.c,.slice A' l1 ca',.slice B' l2 cb'] 28));obtain⟨hpre,hj2,hyl2⟩:=WSt.hand HJ HW HMM rfl HX.1 HX.2 hW2;obtain⟨q1,q2,q3,q4⟩:=HW.out.sel hW2;have HQ3:=hid q3;obtain⟨fn,tmps,assign,body,hy,hR⟩:=HY.out pre x Y W2 hpre (HW.out.mv.trans q4 (fun j hj=> .inr (by have:=HBG.out;have:=HBS.out;omega))) hj2 hyl2;rw[HENC.out]at hy;have HW2:=hid hW2;have hrl:=HRL.out;rw[<- hrl]at hW2;rw[hW2]at hy hR;have HW2':=hid hW2;have HS2:Hid (W2.heap.size=wr.heap.size+1):=hid q1;clear hres hpre hj2 hyl2 q1 q2 q3 q4 hW2 hrl;gi_wp2;refine hR.mono ?_;clear hR hy;rw[<- HW2'.out];rintro e W3 ⟨hmv3,Y3,hy3,⟨rfl,hj3⟩ | ⟨rfl,hjx3⟩⟩
     ·have hyw:∀ j,Y j->j<wr.heap.size:=fun j hj=>(HW.out.yl j hj).1
      have hq3:W3.heap[wr.heap.size]?=some (.cells #[.int .u8 k,SS,n,p.a,p.l,p.c,.slice A' l1 ca',.slice B' l2 cb'] 28 (0,0)):=(hmv3.block wr.heap.size (by rw[HS2.out];omega) (fun hj=>by have:=hyw _ hj;omega)).trans HQ3;have hbk3:W3.heap[kb]?=some (.cells #[.func (.func 25) #[] #[]] 71 (0,0)):=by
       have h:=HW.out;have h1:=(h.sel HW2).2.1 kb (by have:=h.lt;have:=h.bs;omega) (by have:=h.lt;have:=HBG.out;omega);exact (hmv3.block kb (by have:=h.lt;have:=h.bs;rw[HS2.out];omega) h.nl.2).trans (h1.trans h.bk)
      have hxat3:Nd.at_ W3 (OkI W3 Y3 (some ⟨g,0,none⟩)) .ex x:=by
       have h:=HW.out;have h2:=(h.sel HW2).2.1;refine HX.2.keep (fun j hj=>(hmv3.block j (by have:=hj.1;rw[HS2.out];omega) hj.2.1).trans (h2 j hj.1 (fun e=>hj.2.2 0 (by rw[e])))) (fun j hj=>OkI.step (by have:=hmv3.size;rw[HS2.out]at this;omega) (fun j hj=>(hy3 j hj).2.imp id (fun h=>by rw[HS2.out]at h;omega)) (fun j o e=> .inl ⟨o,e⟩) hj)
      rw[Nd.at_,HXD.out]at hxat3;simp only at hxat3;have hek:Calls Tryz.prog 25 #[.agg #[.int .u8 k,SS,n,p.a,p.l,p.c,.slice A' l1 ca',.slice B' l2 cb']] W3 (Qu W3 (OkI W3 Y3 (some ⟨g,0,none⟩)) .ex (kids.app arms.exs)):=by
       rcases hxat3.2 with ⟨_,ha⟩ | ⟨e | e,_⟩
       ·rw[HL1.out,HL2.out,HSS.out]
        exact jp k s n p A' ca' B' cb' kids arms _ W3 hxat3.1 ha (fun j hj=>hj.1) (by have:=kids.len_le;have:=HVS.1;omega) (by have:=arms.len_le;have:=HVS.1;omega)
       ·cases e
       ·cases e
      have HIA:Hid arms.isArms:=hid (by
       rcases hxat3.2 with ⟨_,ha⟩ | ⟨e | e,_⟩
       ·exact ha.isArms
       ·cases e
       ·cases e)
      have HEK:=hid hek;have HMV3:=hid hmv3;have HY3:=hid hy3;have HJ3:=hid hj3;have c0:=QQ hbk3;obtain⟨x0,x1,x2,x3,x4,x5,x6,x7⟩:=box8 hq3;have eg:∀ args w,(callFunc 25 args).run Tryz.prog w=.ok (.enter 25 args) w:=fun args w=>by kernel_rfl
      clear hek hmv3 hy3 hj3 hbk3 hq3 hyw hxat3;gi_wp2_with (first | (gi_at_builtin;refine QJ ?_) | (refine⟨trivial,?_⟩;gi_at_call 25;refine (callsIn_wide.2 HEK).mono ?_;rintro e W4 ⟨A5,c5,rfl,hb4,hk4⟩));have hrow4:=WSt.row3 HW HMM HW2 hgl HMV3 hb4;have HROW4:=hid hrow4;have HB4:=hid hb4;have hmb:=HVS.2;have hbs4:base<=W4.heap.size:=by have:=HW.out.bs;have:=HMV3.size;have:=HS2.out;have:=hb4.size;omega
      have HK4:=hid hk4;have HPRE:Hid (∀ d,(kids.app arms.exs).pre d=kids.pre d++arms.pre d):=hid (fun d=>by rw[Tr.pre_app,Tr.exs_pre _ _ HIA.out]);have hex:=Tr.exs_size arms;have HEX:=hid hex;obtain⟨kl,hkl⟩:=nW ((kids.app arms.exs).len);rw[<- hkl];have HKL:=hid hkl;clear hex;clear hrow4 hb4 c0 x0 x1 x2 x3 x4 x5 x6 x7 hkl hk4;unfold Qv;refine wpListIn_append_own_at _ rfl _ _ 148 rfl base 25 i0 (.slice none 0 0) 1 24 Tryz.underlying148 hi0 hz0 hz1 hz2 rfl (by decide) (.slice (some ⟨g,0,none⟩) (mm+1) cc) (mm+1) _ rfl (HROW4.alloc _) ⟨W4.heap.size,0,none⟩ 1 1 [.slice A5 kl c5] rfl rfl (fun j u hu=>by rw[Addr.add_lit,Nat.zero_add];exact za _ _ _ j u hu) (by simp[Value.oneCell']) (by unfold maxLen;omega) (by omega) (by simp;omega) ?_;intro v' w5 hown5 hg5 _ hat5;obtain⟨g5,c6,rfl,hws⟩:=WSt.next HJ HW HMM rfl HX.1 HRES HW2 hgl HBG HMV3 HY3 HJ3 HB4 (K:=⟨A5,c5,kids.app arms.exs⟩) HK4 HPRE (by rw[HBS.out];exact lR _) (by have h:=hown5;rw[HKL.out]at h;exact h) hg5 hat5;have HWS:=hid hws;clear hown5 hg5 hat5 hws;gi_wp2;go_roundw
      case rel=>exact⟨_,_,_,_,_,_,_,rfl,HWS,rfl⟩
      case measure=>
       refine Nat.lt_of_le_of_lt ((leastOf_spec ⟨_,_,_,_,_,_,_,rfl,HWS,rfl⟩).2 _ ⟨_,_,_,_,_,_,rfl,HWS,rfl⟩) ?_;rw[<- HGK.out,HMS.out];simp only[msS,Tr.size,Tr.app_size];have:=HEX.out;omega
     ·have HJX:=hid hjx3
      have HM3:=hid (And.intro hmv3 hy3);clear hmv3 hy3 hjx3;gi_wp2
      (try simp only[Exit.inBlock,Exit.then])
      refine bodyPost_ret (results_none rfl _ _ _) rfl ?_;have s4:=(HW.out.sel HW2).2.2.2;have z2:=HS2.out;have zb:=HW.out.bs;refine⟨⟨_,rfl⟩,?_,pre++[x],Y3,fun j hj=>⟨(HM3.2 j hj).1,?_⟩,.inr HJX⟩
      ·exact ((HW.out.mv.trans s4 (fun j hj=> .inr (by have:=HBG.out;have:=HBS.out;omega))).trans HM3.1 (fun j hj=>(HW.out.yl j hj).2))
      ·rcases (HM3.2 j hj).2 with h' | h'
       ·exact (HW.out.yl j h').2
       ·right;have:=HBS.out;omega
    ·have hres:KidsTr wr (OkI wr Y (some ⟨g,0,none⟩)) .ex (some ⟨b,o+8,none⟩) rest.len (fc-1) rest:=⟨rfl,by rw[<- HRL.out];omega,fun _=>⟨b,o+8,rfl,HOB,HP.2.2⟩⟩
     have HRES:=hid hres;obtain⟨W2,hW2⟩:=nW ((wr.setCell ⟨g,mm,none⟩ (.slice (some ⟨b,o+8,none⟩) rest.len (fc-1))).alloc (.cells #[.int .u8 k,SS,n,p.a,p.l,p.c,.slice A' l1 ca',.slice B' l2 cb'] 28));obtain⟨hpre,hj2,hyl2⟩:=WSt.hand HJ HW HMM rfl HX.1 HX.2 hW2;obtain⟨q1,q2,q3,q4⟩:=HW.out.sel hW2;have HQ3:=hid q3;obtain⟨fn,tmps,assign,body,hy,hR⟩:=HY.out pre x Y W2 hpre (HW.out.mv.trans q4 (fun j hj=> .inr (by have:=HBG.out;have:=HBS.out;omega))) hj2 hyl2;rw[HENC.out]at hy;have HW2:=hid hW2;have hrl:=HRL.out;rw[<- hrl]at hW2;rw[hW2]at hy hR;have HW2':=hid hW2;have HS2:Hid (W2.heap.size=wr.heap.size+1):=hid q1;clear hres hpre hj2 hyl2 q1 q2 q3 q4 hW2 hrl;gi_wp2;refine hR.mono ?_;clear hR hy;rw[<- HW2'.out];rintro e W3 ⟨hmv3,Y3,hy3,⟨rfl,hj3⟩ | ⟨rfl,hjx3⟩⟩
     ·have hyw:∀ j,Y j->j<wr.heap.size:=fun j hj=>(HW.out.yl j hj).1
      have hq3:W3.heap[wr.heap.size]?=some (.cells #[.int .u8 k,SS,n,p.a,p.l,p.c,.slice A' l1 ca',.slice B' l2 cb'] 28 (0,0)):=(hmv3.block wr.heap.size (by rw[HS2.out];omega) (fun hj=>by have:=hyw _ hj;omega)).trans HQ3;have hbk3:W3.heap[kb]?=some (.cells #[.func (.func 25) #[] #[]] 71 (0,0)):=by
       have h:=HW.out;have h1:=(h.sel HW2).2.1 kb (by have:=h.lt;have:=h.bs;omega) (by have:=h.lt;have:=HBG.out;omega);exact (hmv3.block kb (by have:=h.lt;have:=h.bs;rw[HS2.out];omega) h.nl.2).trans (h1.trans h.bk)
      have hxat3:Nd.at_ W3 (OkI W3 Y3 (some ⟨g,0,none⟩)) .ex x:=by
       have h:=HW.out;have h2:=(h.sel HW2).2.1;refine HX.2.keep (fun j hj=>(hmv3.block j (by have:=hj.1;rw[HS2.out];omega) hj.2.1).trans (h2 j hj.1 (fun e=>hj.2.2 0 (by rw[e])))) (fun j hj=>OkI.step (by have:=hmv3.size;rw[HS2.out]at this;omega) (fun j hj=>(hy3 j hj).2.imp id (fun h=>by rw[HS2.out]at h;omega)) (fun j o e=> .inl ⟨o,e⟩) hj)
      rw[Nd.at_,HXD.out]at hxat3;simp only at hxat3;have hek:Calls Tryz.prog 25 #[.agg #[.int .u8 k,SS,n,p.a,p.l,p.c,.slice A' l1 ca',.slice B' l2 cb']] W3 (Qu W3 (OkI W3 Y3 (some ⟨g,0,none⟩)) .ex (kids.app arms.exs)):=by
       rcases hxat3.2 with ⟨_,ha⟩ | ⟨e | e,_⟩
       ·rw[HL1.out,HL2.out,HSS.out]
        exact jp k s n p A' ca' B' cb' kids arms _ W3 hxat3.1 ha (fun j hj=>hj.1) (by have:=kids.len_le;have:=HVS.1;omega) (by have:=arms.len_le;have:=HVS.1;omega)
       ·cases e
       ·cases e
      have HIA:Hid arms.isArms:=hid (by
       rcases hxat3.2 with ⟨_,ha⟩ | ⟨e | e,_⟩
       ·exact ha.isArms
       ·cases e
       ·cases e)
      have HEK:=hid hek;have HMV3:=hid hmv3;have HY3:=hid hy3;have HJ3:=hid hj3;have c0:=QQ hbk3;obtain⟨x0,x1,x2,x3,x4,x5,x6,x7⟩:=box8 hq3;have eg:∀ args w,(callFunc 25 args).run Tryz.prog w=.ok (.enter 25 args) w:=fun args w=>by kernel_rfl
      clear hek hmv3 hy3 hj3 hbk3 hq3 hyw hxat3;gi_wp2_with (first | (gi_at_builtin;refine QJ ?_) | (refine⟨trivial,?_⟩;gi_at_call 25;refine (callsIn_wide.2 HEK).mono ?_;rintro e W4 ⟨A5,c5,rfl,hb4,hk4⟩));have hrow4:=WSt.row3 HW HMM HW2 hgl HMV3 hb4;have HROW4:=hid hrow4;have HB4:=hid hb4;have hmb:=HVS.2;have hbs4:base<=W4.heap.size:=by have:=HW.out.bs;have:=HMV3.size;have:=HS2.out;have:=hb4.size;omega
      have HK4:=hid hk4;have HPRE:Hid (∀ d,(kids.app arms.exs).pre d=kids.pre d++arms.pre d):=hid (fun d=>by rw[Tr.pre_app,Tr.exs_pre _ _ HIA.out]);have hex:=Tr.exs_size arms;have HEX:=hid hex;obtain⟨kl,hkl⟩:=nW ((kids.app arms.exs).len);rw[<- hkl];have HKL:=hid hkl;clear hex;clear hrow4 hb4 c0 x0 x1 x2 x3 x4 x5 x6 x7 hkl hk4;unfold Qv;refine wpListIn_append_own_at _ rfl _ _ 148 rfl base 25 i0 (.slice none 0 0) 1 24 Tryz.underlying148 hi0 hz0 hz1 hz2 rfl (by decide) (.slice (some ⟨g,0,none⟩) (mm+1) cc) (mm+1) _ rfl (HROW4.alloc _) ⟨W4.heap.size,0,none⟩ 1 1 [.slice A5 kl c5] rfl rfl (fun j u hu=>by rw[Addr.add_lit,Nat.zero_add];exact za _ _ _ j u hu) (by simp[Value.oneCell']) (by unfold maxLen;omega) (by omega) (by simp;omega) ?_;intro v' w5 hown5 hg5 _ hat5;obtain⟨g5,c6,rfl,hws⟩:=WSt.next HJ HW HMM rfl HX.1 HRES HW2 hgl HBG HMV3 HY3 HJ3 HB4 (K:=⟨A5,c5,kids.app arms.exs⟩) HK4 HPRE (by rw[HBS.out];exact lR _) (by have h:=hown5;rw[HKL.out]at h;exact h) hg5 hat5;have HWS:=hid hws;clear hown5 hg5 hat5 hws;gi_wp2;go_roundw
      case rel=>exact⟨_,_,_,_,_,_,_,rfl,HWS,rfl⟩
      case measure=>
       refine Nat.lt_of_le_of_lt ((leastOf_spec ⟨_,_,_,_,_,_,_,rfl,HWS,rfl⟩).2 _ ⟨_,_,_,_,_,_,rfl,HWS,rfl⟩) ?_;rw[<- HGK.out,HMS.out];simp only[msS,Tr.size,Tr.app_size];have:=HEX.out;omega
     ·have HJX:=hid hjx3
      have HM3:=hid (And.intro hmv3 hy3);clear hmv3 hy3 hjx3;gi_wp2
      (try simp only[Exit.inBlock,Exit.then])
      refine bodyPost_ret (results_none rfl _ _ _) rfl ?_;have s4:=(HW.out.sel HW2).2.2.2;have z2:=HS2.out;have zb:=HW.out.bs;refine⟨⟨_,rfl⟩,?_,pre++[x],Y3,fun j hj=>⟨(HM3.2 j hj).1,?_⟩,.inr HJX⟩
      ·exact ((HW.out.mv.trans s4 (fun j hj=> .inr (by have:=HBG.out;have:=HBS.out;omega))).trans HM3.1 (fun j hj=>(HW.out.yl j hj).2))
      ·rcases (HM3.2 j hj).2 with h' | h'
       ·exact (HW.out.yl j h').2
       ·right;have:=HBS.out;omega
def encP(x:Nd):Array Value:=#[.int .i64 x.v.d,.agg #[.int .u8 x.v.k,.string ⟨x.v.s.toArray⟩,.int .i64 x.v.n,.int .i64 x.p.a,.int .i64 x.p.l,.int .i64 x.p.c,.slice x.A x.v.kids.len x.ca]]
theorem qe3:(Tryz.prog.info? 57).map (fun i=>(i.zero,i.size,i.bytes))=some (some (.slice none 0 0),1,24):=by kernel_rfl
theorem JL(A0:OA)(n0 c0 lb kb:Nat)(f0:Tr)(hsz:f0.size<=1000000) :
  SeqL Tryz.prog 134 #[.pointer (some ⟨lb,0,none⟩),.pointer (some ⟨kb,0,none⟩)] encP
   (fun Y W=>W.heap[lb]?=some (.cells #[.slice A0 n0 c0] 57 (0,0))/\W.heap[kb]?=some (.cells #[.func (.func 64) #[] #[]] 115 (0,0))/\KidsTr W (fun j=>j<W.heap.size/\¬ Y j) .pat A0 n0 c0 f0/\¬ Y lb/\¬ Y kb)
   (fun pre x Y W=>(∃ suf,f0.pre 0=pre.map Nd.v++x.v::suf)/\x.at_ W (fun j=>j<W.heap.size/\¬ Y j) .pat)
   (fun xs=>xs.map Nd.v=f0.pre 0):=by
 intro l J Jx Y0 W0 hok hY0 hJ hJx hY h0;obtain⟨hlb,hkb,hkt,hnl,hnk⟩:=hok;have HLB:=hid hlb;have HKB:=hid hkb;have HKT:=hid hkt;have HNL:=hid (And.intro hnl hnk);have HY0:=hid hY0;have HJ:=hid hJ;have HY:=hid hY;have H0:=hid h0;have z0:=QQ hlb;obtain⟨i0,hi0,hz0,hz1,hz2⟩:=info_parts qe3;have HL0:Hid (n0=f0.len):=hid hkt.1;clear hlb hkb hkt hnl hnk hY0 hJ hJx hY h0;refine (callsIn_wide (n:=6)).1 ?_;refine callsIn_of_wp Tryz.func134 rfl trivial ?_ rfl;simp only[Tryz.ntmps134,List.size_toArray,lC,lNn,Nat.reduceAdd,Nat.reduceSub,Array.replicate_succ,Array.replicate_zero,List.push_toArray,List.append_toArray,List.nil_append,cAa];gi_wp2;obtain⟨base,hbase⟩:=nW W0.heap.size;obtain⟨w1,hw1⟩:=nW (W0.alloc (.cells #[.slice A0 n0 c0] 57));have hb1:Bel W0 w1:=by rw[hw1];exact (Bel.refl W0).alloc _
 have hq1:w1.heap[base]?=some (.cells #[.slice A0 n0 c0] 57 (0,0)):=by rw[hw1,hbase];exact blk1 W0 _
 have hs1:w1.heap.size=base+1:=by rw[hw1,hbase];simp
 rw[<- hw1,<- hbase];have hlt:lb<base/\kb<base:=by rw[hbase];exact⟨(aJ.1 HLB).1,(aJ.1 HKB).1⟩
 have HST:Hid (WSt 57 57 115 64 .pat f0 J lb kb base (.slice A0 n0 c0) Y0 W0 (some ⟨base,0,none⟩) 1 1 [⟨A0,c0,f0⟩] [] Y0 w1):=hid (by
  refine⟨rfl,⟨rfl,.inr ⟨base,1,_,rfl,lR _,hq1,lR _,by unfold maxLen;omega,rfl,?_⟩⟩,fun j o e hy=>?_,hb1.blk HLB,hb1.blk HKB,hlt,HNL,?_,HJ _ _ _ _ H0 hb1.size (fun j hj=>hb1.block j (HY0 j hj)),fun j hj=>⟨lT (HY0 j hj) hb1.size,.inl hj⟩,Mv.of_bel hb1,by omega,?_⟩
  ·simp[itV,It.val,<- HL0.out]
  ·cases e;have:=HY0.out _ hy;omega
  ·intro x hx
   simp at hx;subst hx;have hk:=HKT.out;rw[HL0.out]at hk;refine (hk.keep fun j hj=>hb1.block j hj.1).wide fun j hj=>⟨lT hj.1 hb1.size,hj.2,fun o e=>?_⟩
   cases e;have:=hj.1;omega
  ·simp[todo])
 have HBS:=hid hbase;clear hb1 hq1 hs1 hw1 hbase z0 hlt HLB HKB HKT H0 HNL HL0;gi_loopw [4] (fun v wr=>∃ k:Nat,∃ S pre Y A cc m,v=.slice A m cc/\Hid (WSt 57 57 115 64 .pat f0 J lb kb base (.slice A0 n0 c0) Y0 W0 A cc m S pre Y wr)/\k=msS S) (fun v wr=>leastOf (fun k:Nat=>∃ S pre Y A cc m,v=.slice A m cc/\Hid (WSt 57 57 115 64 .pat f0 J lb kb base (.slice A0 n0 c0) Y0 W0 A cc m S pre Y wr)/\k=msS S))
 case atStart=>exact⟨_,_,_,_,_,_,_,rfl,HST,rfl⟩
 case round=>
  clear HST;obtain⟨gk,hgk⟩:=nW (leastOf (fun k:Nat=>∃ S pre Y A cc m,u4=.slice A m cc/\Hid (WSt 57 57 115 64 .pat f0 J lb kb base (.slice A0 n0 c0) Y0 W0 A cc m S pre Y wr)/\k=msS S));have hmin:=(leastOf_spec hrel).1;rw[<- hgk]at hmin;clear hrel;obtain⟨S,pre,Y,A,cc,m,rfl,HW,hms⟩:=hmin;have HGK:=hid hgk;have HMS:=hid hms;clear hgk hms;cases S with
  | nil=>
   have hm:m=0:=HW.out.len;subst hm;gi_wp2;go_end0;exact⟨⟨_,rfl⟩,HW.out.mv,pre,Y,HW.out.yl,.inl ⟨by have h:=HW.out.what;simpa [todo] using h.symm,HW.out.j⟩⟩
  | cons it S=>
   obtain⟨mm,hmm⟩:=nW S.length;have hm:m=mm+1:=by rw[hmm];exact HW.out.len
   subst hm;obtain⟨g,eA,hbg,hgl,hcc,hcm,hcell,hfz,hrow⟩:=qcg hmm HW.out.row;subst eA;obtain⟨fA,fc,f⟩:=it;obtain⟨fl,hfl⟩:=nW f.len;simp only[It.val,<- hfl]at hcell;have hm63:mm+1<=9223372036854775807:=by unfold maxLen at hcm;omega
   have i0':(0:Int)<=(mm:Int):=by omega
   have i1:(mm:Int)<(mm:Int)+1:=by omega
   have i4:(mm:Int)<=(cc:Int):=by omega
   have HMM:=hid hmm;have HFL:=hid hfl;have HROW:=hid hrow;clear hmm hfl hrow hcm;by_cases hf0:fl=0
   ·subst hf0
    obtain rfl:=Tr.len_nil f HFL.out.symm;have HW':Hid (WSt 57 57 115 64 .pat f0 J lb kb base (.slice A0 n0 c0) Y0 W0 (some ⟨g,0,none⟩) cc mm S pre Y wr):=hid (by
     have h:=HW.out;refine⟨HMM,HROW,h.ny,h.bl,h.bk,h.lt,h.nl,fun x hx=>h.its x (mCc _ hx),h.j,h.yl,h.mv,h.bs,?_⟩;have e:=h.what;simpa [todo,Tr.pre] using e)
    clear hbg HW HROW;gi_wp2;go_roundw
    case rel=>exact⟨_,S,pre,Y,_,_,_,rfl,HW',rfl⟩
    case measure=>
     refine Nat.lt_of_le_of_lt ((leastOf_spec ⟨_,S,pre,Y,_,_,_,rfl,HW',rfl⟩).2 (msS S) ⟨S,pre,Y,_,_,_,rfl,HW',rfl⟩) ?_;rw[<- HGK.out,HMS.out];simp only[msS];omega
   ·have hkt:=HW.out.its _ List.mem_cons_self
    obtain⟨k,s,n,p,kids,arms,rest,rfl⟩:∃ k s n p kids arms rest,f=.nod k s n p kids arms rest:=by
     have hn:=hkt.isNods (by intro e;cases e);cases f with
     | nil=>exact absurd HFL hf0
     | nod k s n p kids arms rest=>exact⟨_,_,_,_,_,_,_,rfl⟩
     | arm=>exact hn.elim
    obtain⟨b,o,eF,hob,hto⟩:=hkt.2.2 (by simp[Tr.len]);simp only at eF;subst eF;obtain⟨A',ca',B',cb',hc,hk2,ha2,hr2⟩:=hto.parts;have y0:=hc 0 _ rfl;have y1:=hc 1 _ rfl;have y2:=hc 2 _ rfl;have y3:=hc 3 _ rfl;have y4:=hc 4 _ rfl;have y5:=hc 5 _ rfl;have y6:=hc 6 _ rfl;simp only[nZz]at y0;obtain⟨rl,hrl⟩:=nW rest.len;have hfl2:fl=rl+1:=by rw[hrl];exact HFL
    subst hfl2;have hbgn:b≠g:=fun e=>hob.2.2 0 (by rw[e]);have hbl:b<wr.heap.size:=hob.1;have hfcl:rl+1<=fc:=by have:=hkt.2.1;rw[<- HFL.out]at this;exact this
    have HKT:=hid hkt;have HP:=hid (And.intro hk2 (And.intro ha2 hr2));have HOB:=hid hob;have HRL:=hid hrl;have HBG:=hid hbg;obtain⟨l1,hl1⟩:=nW kids.len;obtain⟨l2,hl2⟩:=nW arms.len;obtain⟨SS,hSS⟩:=nW (⟨s.toArray⟩:BA);rw[<- hSS]at y1;rw[<- hl1]at y6;have hl2':=hl2;try rw[<- hl2]at y7
    clear hl2';have HL1:=hid hl1;have HL2:=hid hl2;have HSS:=hid hSS;have j1:(0:Int)<((rl+1:Nat):Int):=by omega
    have j2:((rl:Int)+1==0)=false:=by simp;omega
    clear hc hkt hto hk2 ha2 hr2 hob hrl hl1 hl2 hSS hbg hf0;simp only[Sh.kd]at y2;obtain⟨x,hxd⟩:=nW (⟨⟨mm,k,s,n,kids,arms⟩,p,A',ca',B',cb'⟩:Nd);have hxv:x.v=⟨mm,k,s,n,kids,arms⟩:=by rw[hxd]
    have henc:encP x=#[.int .i64 (mm:Int),.agg #[.int .u8 k,SS,n,p.a,p.l,p.c,.slice A' l1 ca']]:=by rw[hxd,HL1.out,HSS.out];rfl
    have hxat:x.at_ wr (OkI wr Y (some ⟨g,0,none⟩)) .pat:=by rw[hxd];exact⟨HP.1,HP.2.1⟩
    have HX:=hid (And.intro hxv hxat);have HXD:=hid hxd;have hmem:x.v∈f0.pre 0:=by
     rw[HW.out.what,hxv];simp[todo,Tr.pre,<- HMM.out]
    have hvs:=Tr.pre_size f0 0 x.v hmem;rw[hxv]at hvs;simp only at hvs;have HVS:Hid (kids.size+arms.size<=1000000/\mm<=1000000):=hid (by omega);clear hmem hvs;have HENC:=hid henc;clear hxd hxv henc hxat;by_cases hfc1:fc=1
    ·subst hfc1
     obtain rfl:rl=0:=by omega
     have hres:KidsTr wr (OkI wr Y (some ⟨g,0,none⟩)) .pat (some ⟨b,o,none⟩) rest.len 0 rest:=⟨rfl,by rw[<- HRL.out];exact lR _,fun h=>absurd h (by rw[<- HRL.out];omega)⟩
     have HRES:=hid hres;obtain⟨W2,hW2⟩:=nW ((wr.setCell ⟨g,mm,none⟩ (.slice (some ⟨b,o,none⟩) rest.len 0)).alloc (.cells #[.int .u8 k,SS,n,p.a,p.l,p.c,.slice A' l1 ca'] 59));obtain⟨hpre,hj2,hyl2⟩:=WSt.hand HJ HW HMM rfl HX.1 HX.2 hW2;obtain⟨q1,q2,q3,q4⟩:=HW.out.sel hW2;have HQ3:=hid q3;obtain⟨fn,tmps,assign,body,hy,hR⟩:=HY.out pre x Y W2 hpre (HW.out.mv.trans q4 (fun j hj=> .inr (by have:=HBG.out;have:=HBS.out;omega))) hj2 hyl2;rw[HENC.out]at hy;have HW2:=hid hW2;have hrl:=HRL.out;rw[<- hrl]at hW2;rw[hW2]at hy hR;have HW2':=hid hW2;have HS2:Hid (W2.heap.size=wr.heap.size+1):=hid q1;clear hres hpre hj2 hyl2 q1 q2 q3 q4 hW2 hrl;gi_wp2;refine hR.mono ?_;clear hR hy;rw[<- HW2'.out];rintro e W3 ⟨hmv3,Y3,hy3,⟨rfl,hj3⟩ | ⟨rfl,hjx3⟩⟩
     ·have hyw:∀ j,Y j->j<wr.heap.size:=fun j hj=>(HW.out.yl j hj).1
      have hq3:W3.heap[wr.heap.size]?=some (.cells #[.int .u8 k,SS,n,p.a,p.l,p.c,.slice A' l1 ca'] 59 (0,0)):=(hmv3.block wr.heap.size (by rw[HS2.out];omega) (fun hj=>by have:=hyw _ hj;omega)).trans HQ3;have hbk3:W3.heap[kb]?=some (.cells #[.func (.func 64) #[] #[]] 115 (0,0)):=by
       have h:=HW.out;have h1:=(h.sel HW2).2.1 kb (by have:=h.lt;have:=h.bs;omega) (by have:=h.lt;have:=HBG.out;omega);exact (hmv3.block kb (by have:=h.lt;have:=h.bs;rw[HS2.out];omega) h.nl.2).trans (h1.trans h.bk)
      have hxat3:Nd.at_ W3 (OkI W3 Y3 (some ⟨g,0,none⟩)) .pat x:=by
       have h:=HW.out;have h2:=(h.sel HW2).2.1;refine HX.2.keep (fun j hj=>(hmv3.block j (by have:=hj.1;rw[HS2.out];omega) hj.2.1).trans (h2 j hj.1 (fun e=>hj.2.2 0 (by rw[e])))) (fun j hj=>OkI.step (by have:=hmv3.size;rw[HS2.out]at this;omega) (fun j hj=>(hy3 j hj).2.imp id (fun h=>by rw[HS2.out]at h;omega)) (fun j o e=> .inl ⟨o,e⟩) hj)
      rw[Nd.at_,HXD.out]at hxat3;simp only at hxat3;have hek:Calls Tryz.prog 64 #[.agg #[.int .u8 k,SS,n,p.a,p.l,p.c,.slice A' l1 ca']] W3 ((StR (.slice A' l1 ca') W3)):=by
       rw[HSS.out];exact jW k s n p A' l1 ca' W3
      have HKT3:=hid hxat3.1;have HAR:Hid (arms=.nil):=hid (by
       rcases hxat3.2 with ⟨e,_⟩ | ⟨_,e⟩
       ·cases e
       ·exact Tr.len_nil _ e)
      have HEK:=hid hek;have HMV3:=hid hmv3;have HY3:=hid hy3;have HJ3:=hid hj3;have c0:=QQ hbk3;obtain⟨x0,x1,x2,x3,x4,x5,x6⟩:=box7 hq3;have eg:∀ args w,(callFunc 64 args).run Tryz.prog w=.ok (.enter 64 args) w:=fun args w=>by kernel_rfl
      clear hek hmv3 hy3 hj3 hbk3 hq3 hyw hxat3;gi_wp2_with (first | (gi_at_builtin;refine QJ ?_) | (refine⟨trivial,?_⟩;gi_at_call 64;refine (callsIn_wide.2 HEK).mono ?_;rintro e W4 ⟨rfl,hb4⟩));have hrow4:=WSt.row3 HW HMM HW2 hgl HMV3 hb4;have HROW4:=hid hrow4;have HB4:=hid hb4;have hmb:=HVS.2;have hbs4:base<=W4.heap.size:=by have:=HW.out.bs;have:=HMV3.size;have:=HS2.out;have:=hb4.size;omega
      have HK4:Hid (KidsTr W4 (qbW W3 (OkI W3 Y3 (some ⟨g,0,none⟩)) W4) .pat A' kids.len ca' kids):=hid ((HKT3.keep fun j hj=>hb4.block j hj.1).wide fun j hj=> .inl hj);have HPRE:Hid (∀ d,kids.pre d=kids.pre d++arms.pre d):=hid (fun d=>by rw[HAR.out];simp[Tr.pre]);obtain⟨kl,hkl⟩:=nW l1;rw[<- hkl];have HKL:Hid (kl=kids.len):=hid (by rw[hkl];exact HL1);obtain⟨A5,hA5⟩:=nW A';obtain⟨c5,hc5⟩:=nW ca';rw[<- hA5,<- hc5]at HK4 ⊢;clear hA5 hc5;clear hrow4 hb4 c0 x0 x1 x2 x3 x4 x5 x6 hkl;unfold Qv;refine wpListIn_append_own_at _ rfl _ _ 201 rfl base 57 i0 (.slice none 0 0) 1 24 Tryz.underlying201 hi0 hz0 hz1 hz2 rfl (by decide) (.slice (some ⟨g,0,none⟩) (mm+1) cc) (mm+1) _ rfl (HROW4.alloc _) ⟨W4.heap.size,0,none⟩ 1 1 [.slice A5 kl c5] rfl rfl (fun j u hu=>by rw[Addr.add_lit,Nat.zero_add];exact za _ _ _ j u hu) (by simp[Value.oneCell']) (by unfold maxLen;omega) (by omega) (by simp;omega) ?_;intro v' w5 hown5 hg5 _ hat5;obtain⟨g5,c6,rfl,hws⟩:=WSt.next HJ HW HMM rfl HX.1 HRES HW2 hgl HBG HMV3 HY3 HJ3 HB4 (K:=⟨A5,c5,kids⟩) HK4 HPRE (by rw[HBS.out];exact lR _) (by have h:=hown5;rw[HKL.out]at h;exact h) hg5 hat5;have HWS:=hid hws;clear hown5 hg5 hat5 hws;gi_wp2;go_roundw
      case rel=>exact⟨_,_,_,_,_,_,_,rfl,HWS,rfl⟩
      case measure=>
       refine Nat.lt_of_le_of_lt ((leastOf_spec ⟨_,_,_,_,_,_,_,rfl,HWS,rfl⟩).2 _ ⟨_,_,_,_,_,_,rfl,HWS,rfl⟩) ?_;rw[<- HGK.out,HMS.out];simp only[msS,Tr.size];omega
     ·have HJX:=hid hjx3
      have HM3:=hid (And.intro hmv3 hy3);clear hmv3 hy3 hjx3;gi_wp2
      (try simp only[Exit.inBlock,Exit.then])
      refine bodyPost_ret (results_none rfl _ _ _) rfl ?_;have s4:=(HW.out.sel HW2).2.2.2;have z2:=HS2.out;have zb:=HW.out.bs;refine⟨⟨_,rfl⟩,?_,pre++[x],Y3,fun j hj=>⟨(HM3.2 j hj).1,?_⟩,.inr HJX⟩
      ·exact ((HW.out.mv.trans s4 (fun j hj=> .inr (by have:=HBG.out;have:=HBS.out;omega))).trans HM3.1 (fun j hj=>(HW.out.yl j hj).2))
      ·rcases (HM3.2 j hj).2 with h' | h'
       ·exact (HW.out.yl j h').2
       ·right;have:=HBS.out;omega
    ·have hres:KidsTr wr (OkI wr Y (some ⟨g,0,none⟩)) .pat (some ⟨b,o+7,none⟩) rest.len (fc-1) rest:=⟨rfl,by rw[<- HRL.out];omega,fun _=>⟨b,o+7,rfl,HOB,HP.2.2⟩⟩
     have HRES:=hid hres;obtain⟨W2,hW2⟩:=nW ((wr.setCell ⟨g,mm,none⟩ (.slice (some ⟨b,o+7,none⟩) rest.len (fc-1))).alloc (.cells #[.int .u8 k,SS,n,p.a,p.l,p.c,.slice A' l1 ca'] 59));obtain⟨hpre,hj2,hyl2⟩:=WSt.hand HJ HW HMM rfl HX.1 HX.2 hW2;obtain⟨q1,q2,q3,q4⟩:=HW.out.sel hW2;have HQ3:=hid q3;obtain⟨fn,tmps,assign,body,hy,hR⟩:=HY.out pre x Y W2 hpre (HW.out.mv.trans q4 (fun j hj=> .inr (by have:=HBG.out;have:=HBS.out;omega))) hj2 hyl2;rw[HENC.out]at hy;have HW2:=hid hW2;have hrl:=HRL.out;rw[<- hrl]at hW2;rw[hW2]at hy hR;have HW2':=hid hW2;have HS2:Hid (W2.heap.size=wr.heap.size+1):=hid q1;clear hres hpre hj2 hyl2 q1 q2 q3 q4 hW2 hrl;gi_wp2;refine hR.mono ?_;clear hR hy;rw[<- HW2'.out];rintro e W3 ⟨hmv3,Y3,hy3,⟨rfl,hj3⟩ | ⟨rfl,hjx3⟩⟩
     ·have hyw:∀ j,Y j->j<wr.heap.size:=fun j hj=>(HW.out.yl j hj).1
      have hq3:W3.heap[wr.heap.size]?=some (.cells #[.int .u8 k,SS,n,p.a,p.l,p.c,.slice A' l1 ca'] 59 (0,0)):=(hmv3.block wr.heap.size (by rw[HS2.out];omega) (fun hj=>by have:=hyw _ hj;omega)).trans HQ3;have hbk3:W3.heap[kb]?=some (.cells #[.func (.func 64) #[] #[]] 115 (0,0)):=by
       have h:=HW.out;have h1:=(h.sel HW2).2.1 kb (by have:=h.lt;have:=h.bs;omega) (by have:=h.lt;have:=HBG.out;omega);exact (hmv3.block kb (by have:=h.lt;have:=h.bs;rw[HS2.out];omega) h.nl.2).trans (h1.trans h.bk)
      have hxat3:Nd.at_ W3 (OkI W3 Y3 (some ⟨g,0,none⟩)) .pat x:=by
       have h:=HW.out;have h2:=(h.sel HW2).2.1;refine HX.2.keep (fun j hj=>(hmv3.block j (by have:=hj.1;rw[HS2.out];omega) hj.2.1).trans (h2 j hj.1 (fun e=>hj.2.2 0 (by rw[e])))) (fun j hj=>OkI.step (by have:=hmv3.size;rw[HS2.out]at this;omega) (fun j hj=>(hy3 j hj).2.imp id (fun h=>by rw[HS2.out]at h;omega)) (fun j o e=> .inl ⟨o,e⟩) hj)
      rw[Nd.at_,HXD.out]at hxat3;simp only at hxat3;have hek:Calls Tryz.prog 64 #[.agg #[.int .u8 k,SS,n,p.a,p.l,p.c,.slice A' l1 ca']] W3 ((StR (.slice A' l1 ca') W3)):=by
       rw[HSS.out];exact jW k s n p A' l1 ca' W3
      have HKT3:=hid hxat3.1;have HAR:Hid (arms=.nil):=hid (by
       rcases hxat3.2 with ⟨e,_⟩ | ⟨_,e⟩
       ·cases e
       ·exact Tr.len_nil _ e)
      have HEK:=hid hek;have HMV3:=hid hmv3;have HY3:=hid hy3;have HJ3:=hid hj3;have c0:=QQ hbk3;obtain⟨x0,x1,x2,x3,x4,x5,x6⟩:=box7 hq3;have eg:∀ args w,(callFunc 64 args).run Tryz.prog w=.ok (.enter 64 args) w:=fun args w=>by kernel_rfl
      clear hek hmv3 hy3 hj3 hbk3 hq3 hyw hxat3;gi_wp2_with (first | (gi_at_builtin;refine QJ ?_) | (refine⟨trivial,?_⟩;gi_at_call 64;refine (callsIn_wide.2 HEK).mono ?_;rintro e W4 ⟨rfl,hb4⟩));have hrow4:=WSt.row3 HW HMM HW2 hgl HMV3 hb4;have HROW4:=hid hrow4;have HB4:=hid hb4;have hmb:=HVS.2;have hbs4:base<=W4.heap.size:=by have:=HW.out.bs;have:=HMV3.size;have:=HS2.out;have:=hb4.size;omega
      have HK4:Hid (KidsTr W4 (qbW W3 (OkI W3 Y3 (some ⟨g,0,none⟩)) W4) .pat A' kids.len ca' kids):=hid ((HKT3.keep fun j hj=>hb4.block j hj.1).wide fun j hj=> .inl hj);have HPRE:Hid (∀ d,kids.pre d=kids.pre d++arms.pre d):=hid (fun d=>by rw[HAR.out];simp[Tr.pre]);obtain⟨kl,hkl⟩:=nW l1;rw[<- hkl];have HKL:Hid (kl=kids.len):=hid (by rw[hkl];exact HL1);obtain⟨A5,hA5⟩:=nW A';obtain⟨c5,hc5⟩:=nW ca';rw[<- hA5,<- hc5]at HK4 ⊢;clear hA5 hc5;clear hrow4 hb4 c0 x0 x1 x2 x3 x4 x5 x6 hkl;unfold Qv;refine wpListIn_append_own_at _ rfl _ _ 201 rfl base 57 i0 (.slice none 0 0) 1 24 Tryz.underlying201 hi0 hz0 hz1 hz2 rfl (by decide) (.slice (some ⟨g,0,none⟩) (mm+1) cc) (mm+1) _ rfl (HROW4.alloc _) ⟨W4.heap.size,0,none⟩ 1 1 [.slice A5 kl c5] rfl rfl (fun j u hu=>by rw[Addr.add_lit,Nat.zero_add];exact za _ _ _ j u hu) (by simp[Value.oneCell']) (by unfold maxLen;omega) (by omega) (by simp;omega) ?_;intro v' w5 hown5 hg5 _ hat5;obtain⟨g5,c6,rfl,hws⟩:=WSt.next HJ HW HMM rfl HX.1 HRES HW2 hgl HBG HMV3 HY3 HJ3 HB4 (K:=⟨A5,c5,kids⟩) HK4 HPRE (by rw[HBS.out];exact lR _) (by have h:=hown5;rw[HKL.out]at h;exact h) hg5 hat5;have HWS:=hid hws;clear hown5 hg5 hat5 hws;gi_wp2;go_roundw
      case rel=>exact⟨_,_,_,_,_,_,_,rfl,HWS,rfl⟩
      case measure=>
       refine Nat.lt_of_le_of_lt ((leastOf_spec ⟨_,_,_,_,_,_,_,rfl,HWS,rfl⟩).2 _ ⟨_,_,_,_,_,_,rfl,HWS,rfl⟩) ?_;rw[<- HGK.out,HMS.out];simp only[msS,Tr.size];omega
     ·have HJX:=hid hjx3
      have HM3:=hid (And.intro hmv3 hy3);clear hmv3 hy3 hjx3;gi_wp2
      (try simp only[Exit.inBlock,Exit.then])
      refine bodyPost_ret (results_none rfl _ _ _) rfl ?_;have s4:=(HW.out.sel HW2).2.2.2;have z2:=HS2.out;have zb:=HW.out.bs;refine⟨⟨_,rfl⟩,?_,pre++[x],Y3,fun j hj=>⟨(HM3.2 j hj).1,?_⟩,.inr HJX⟩
      ·exact ((HW.out.mv.trans s4 (fun j hj=> .inr (by have:=HBG.out;have:=HBS.out;omega))).trans HM3.1 (fun j hj=>(HW.out.yl j hj).2))
      ·rcases (HM3.2 j hj).2 with h' | h'
       ·exact (HW.out.yl j h').2
       ·right;have:=HBS.out;omega
set_option maxHeartbeats 4000000
theorem JK(A:OA)(n c:Nat)(w:World):Calls Tryz.prog 106 #[.slice A n c,.func (.func 64) #[] #[]] w fun e w'=>e=.returned (.func (.func 134) #[] #[.pointer (some ⟨w.heap.size,0,none⟩),.pointer (some ⟨w.heap.size+1,0,none⟩)])/\w'=(w.alloc (.cells #[.slice A n c] 57)).alloc (.cells #[.func (.func 64) #[] #[]] 115):=by
 go_enter Tryz.func106,Tryz.ntmps106;go_wp2;go_ret;exact⟨rfl,rfl⟩
theorem qe7(k:Int)(s:LU)(n:Int)(p:Pl)(A:OA)(l c:Nat)(w:World):Calls Tryz.prog 83 #[.agg #[.int .u8 k,.string ⟨s.toArray⟩,n,p.a,p.l,p.c,.slice A l c]] w (StR (.int .i64 1) w):=by
 go_enter Tryz.func83,Tryz.ntmps83;go_wp2;go_ret;exact⟨rfl,(Bel.refl w).alloc _⟩
theorem qdy(A:OA)(n c:Nat)(f:Tr)(w:World)(hk:KidsTr w (OldT w) .pat A n c f)(hsz:f.size<=1000000) :
  Calls Tryz.prog 82 #[.slice A n c,.func (.func 64) #[] #[],.func (.func 83) #[] #[]] w (StR (.int .i64 (f.depth:Int)) w):=by
 have HK:=hid hk;clear hk;refine (callsIn_wide (n:=6)).1 ?_;refine callsIn_of_wp_marks Tryz.func82 rfl trivial ?_ rfl;simp only[Tryz.ntmps82,List.size_toArray,lC,lNn,Nat.reduceAdd,Nat.reduceSub,Array.replicate_succ,Array.replicate_zero,List.push_toArray,List.append_toArray,List.nil_append,cAa];gi_wp2_with (refine⟨trivial,?_⟩;gi_at_call 106;refine (callsIn_wide.2 (JK _ _ _ _)).mono ?_;rintro e w2 ⟨rfl,rfl⟩);obtain⟨hb,hhb⟩:=nW w.heap.size;obtain⟨wq,hwq⟩:=nW ((((w.alloc (.cells #[.func (.func 83) #[] #[]] 121)).alloc (.cells #[.int .i64 0] 3)).alloc (.cells #[.slice A n c] 57)).alloc (.cells #[.func (.func 64) #[] #[]] 115));have hbq:Bel w wq:=by rw[hwq];exact ((((Bel.refl w).alloc _).alloc _).alloc _).alloc _
 have hsq:wq.heap.size=hb+4:=by rw[hwq,hhb];simp
 have hq4:=blk4 w (.cells #[.func (.func 83) #[] #[]] 121) (.cells #[.int .i64 0] 3) (.cells #[.slice A n c] 57) (.cells #[.func (.func 64) #[] #[]] 115);rw[<- hwq,<- hhb]at hq4;obtain⟨q0,q1,q2,q3⟩:=hq4;replace q0:Boxed wq hb 121 (.func (.func 83) #[] #[]):=q0;replace q1:Boxed wq (hb+1) 3 (.int .i64 0):=q1;replace q2:Boxed wq (hb+2) 57 (.slice A n c):=q2;replace q3:Boxed wq (hb+3) 115 (.func (.func 64) #[] #[]):=q3;rw[<- hwq,<- hhb];have HBQ:=hid hbq;have HHB:=hid hhb;have HSQ:=hid hsq;have Q0:=hid q0;have Q1:=hid q1;have Q2:=hid q2;have Q3:=hid q3;clear hwq hbq hsq q0 q1 q2 q3 hhb;refine jd (α:=Nd) (gf:=134) (lb:=#[.pointer (some ⟨hb+2,0,none⟩),.pointer (some ⟨hb+3,0,none⟩)]) rfl (fun args w=>by kernel_rfl) (encs:=encP) (JL A n c (hb+2) (hb+3) f hsz) (fun _=>rfl)
  (fun pre x Y W W' h hs hk=>⟨h.1,h.2.keep (fun j hj=>hk j hj.1 hj.2) (fun j hj=>⟨lT hj.1 hs,hj.2⟩)⟩)
  (fun xs Y W=>(∀ k,Y k↔(k=hb∨k=hb+1))/\Boxed W hb 121 (.func (.func 83) #[] #[])/\Boxed W (hb+1) 3 (.int .i64 (vmax hdE 0 (xs.map Nd.v):Nat))/\hb+4<=W.heap.size) (fun _ _ _=>False) ?_ (fun _ _ _ _ h _ _=>h)
  (Y0:=fun k=>k=hb∨k=hb+1) ?_ (fun k hk=>by have:=HSQ.out;omega) ⟨fun _=>Iff.rfl,Q0.out,Q1.out,by rw[HSQ.out];exact lR _⟩
  (fun x bx=>{ tmps:=#[.slice A n c,.func (.func 64) #[] #[],.func (.func 83) #[] #[],undef,undef,.pointer (some ⟨hb,0,none⟩),(0:Int),.pointer (some ⟨hb+1,0,none⟩),x.v.d,.pointer (some ⟨bx,0,none⟩),.slice A n c,.func (.func 64) #[] #[],.func (.func 134) #[] #[.pointer (some ⟨hb+2,0,none⟩),.pointer (some ⟨hb+3,0,none⟩)],x.v.d,.agg #[.int .u8 x.v.k,.string ⟨x.v.s.toArray⟩,x.v.n,x.p.a,x.p.l,x.p.c,.slice x.A x.v.kids.len x.ca],undef,undef,undef,undef,undef,undef,undef,undef],defers:=[] })
  (fun x=> .cells #[.int .u8 x.v.k,.string ⟨x.v.s.toArray⟩,x.v.n,x.p.a,x.p.l,x.p.c,.slice x.A x.v.kids.len x.ca] 59) ?_ ?_ ?_ ?_
 ·rintro s Y W W' ⟨h1,h2,h3,h4⟩ hs hk
  exact⟨h1,(hk hb ((h1 hb).2 (.inl rfl))).trans h2,(hk (hb+1) ((h1 _).2 (.inr rfl))).trans h3,lL h4 hs⟩
 ·rintro Y W hbW hY
  have hn:∀ j,Y j->hb<=j/\j≠hb+2/\j≠hb+3:=fun j hj=>by
   have:=HSQ.out;rcases hY j hj with (h | h) | h <;> omega
  refine⟨hbW.blk Q2.out,hbW.blk Q3.out,(HK.keep (fun j hj=>(HBQ.on hbW).block j hj)).wide (fun j hj=>⟨lT hj (HBQ.on hbW).size,fun h=>?_⟩),fun h=>(hn _ h).2.1 rfl,fun h=>(hn _ h).2.2 rfl⟩;have h1:=(hn j h).1;have h2:j<w.heap.size:=hj;rw[HHB.out]at h1;omega
 ·rintro l x W K hK
  have HKK:=hid hK;clear hK;simp only[encP];gi_wp2;exact HKK
 ·rintro l bx pre x Y W hbx1 hbx2 hob hYb ⟨Y',hYY,⟨suf,hpre⟩,hat⟩ hmv0 hYl ⟨hY,hi1,hi2,hi3⟩ hYs
  have hmem:x.v∈f.pre 0:=by rw[hpre];simp
  have hvs:=Tr.pre_size f 0 x.v hmem;have HVS:Hid (x.v.kids.size+x.v.arms.size<=1000000/\x.v.d<=1000000):=hid (by omega);have HAT:=hid hat;have HYS:=hid hYs;have HY:=hid hY;have HYY:=hid hYY;have HI1:=hid hi1;have HI2:=hid hi2;have HI3:=hid hi3;have HBX:=hid hbx1;obtain⟨m,hm⟩:=nW (vmax hdE 0 (pre.map Nd.v));rw[<- hm]at HI2 hi2;have HM:=hid hm;obtain⟨xv,xp,xA,xca,xB,xcb⟩:=x;obtain⟨d,k,s,nn,kids,arms⟩:=xv;obtain⟨l1,hl1⟩:=nW kids.len;obtain⟨l2,hl2⟩:=nW arms.len;obtain⟨SS,hSS⟩:=nW (⟨s.toArray⟩:BA);obtain⟨hv,hhv⟩:=nW (hdE ⟨d,k,s,nn,kids,arms⟩);have HHV:=hid hhv;simp only at HAT HVS hob ⊢;have har:arms=.nil:=by
   rcases HAT.2 with ⟨e,_⟩ | ⟨_,e⟩
   ·cases e
   ·exact Tr.len_nil _ e
  have hv1:hv=1:=by rw[hhv,har];rfl
  have HC:Hid (∀ W',Bel W W'->Calls Tryz.prog 83 #[.agg #[.int .u8 k,.string ⟨s.toArray⟩,nn,xp.a,xp.l,xp.c,.slice xA kids.len xca]] W' (StR (.int .i64 (hv:Int)) W')):=hid fun W' _=>by
   rw[hv1];exact qe7 k s nn xp xA kids.len xca W'
  have HV1:=hid hv1;clear hv1 har;simp only[<- hl1,<- hSS]at hob HC ⊢;have hvb:hv<=1000001:=by have:=HV1.out;omega
  have hdb:d<=1000000:=HVS.2;obtain⟨x0,x1,x2,x3,x4,x5,x6⟩:=box7 hob;have eg:∀ args w,(callFunc 83 args).run Tryz.prog w=.ok (.enter 83 args) w:=fun args w=>by kernel_rfl
  have y0:=qd hbx2 x0;have y1:=qd hbx2 x1;have y2:=qd hbx2 x2;have y3:=qd hbx2 x3;have y4:=qd hbx2 x4;have y5:=qd hbx2 x5;have y6:=qd hbx2 x6;have z0:=qd (by have:=HI3.out;omega) hi1.cell;have z1:=qd (by have:=HI3.out;omega) hi2.cell;clear hmv0 hpre hmem hvs hat hYs hY hYY hi1 hi2 hi3 hob hYl hbx1 hYb hl1 hl2 hSS hhv hm;gi_wp2_with fail;refine zV 7 (by kernel_rfl) (by kernel_rfl) (fun ⟨_,_,h⟩=>h) (by kernel_rfl) ?_;simp only[List.take_succ_cons,List.take_zero,jF,jG];repeat (go_big_quiet_step (exact (HC _ (Abw.bel _)).mono fun e w h=>⟨h.1,⟨_,(Abw.bel _).on h.2⟩,rfl⟩))
  refine wpQuiet_nil ?_;rintro w4 ⟨⟨w4,hb4⟩,rfl⟩;have HB4:=hid hb4;have f1:w4.cell? ⟨hb+1,0,none⟩=some (.int .i64 (m:Int)):=z1 ⟨w4,hb4⟩;have f2:w4.frozen? ⟨hb+1,0,none⟩=false:=Boxed.frozen (hb4.blk HI2);clear z0 z1 x0 x1 x2 x3 x4 x5 x6 y0 y1 y2 y3 y4 y5 y6;go_wp2_with fail;have hB1:Boxed w4 hb 121 (.func (.func 83) #[] #[]):=HB4.blk HI1;have hB2:Boxed w4 (hb+1) 3 (.int .i64 (m:Int)):=HB4.blk HI2;refine⟨Mv.set_ (p:=⟨hb+1,0,none⟩) (Mv.of_bel HB4) (.inl ((HY (hb+1)).2 (.inr rfl))) _,Y,⟨HY,hB1.other (by omega) _,?_,by have:=HB4.size;have:=HI3.out;simp;omega⟩,fun j hj=>⟨by have:=HB4.size;have:=HYS.out j hj;simp;omega,.inl hj⟩⟩;have e:((vmax hdE 0 (List.map Nd.v (pre++[⟨⟨d,k,s,nn,kids,arms⟩,xp,xA,xca,xB,xcb⟩])):Nat):Int)=max (m:Int) ((d:Int)+(hv:Int)):=by
   rw[List.map_append,List.map_cons,List.map_nil,JJ,<- HM.out,<- HHV.out];simp only;omega
  rw[e];exact hB2.set _
 ·rintro D xs Y W hD hfin ⟨hY,hi1,hi2,hi3⟩ hmv hYs hDd hYD
  have HI:=hid hi2;have HFIN:=hid hfin;have HMV:=hid hmv;have HDD:=hid hDd;have HDL:=hid hD;have c1:=hi2.cell;clear hY hi1 hi2 hi3 hmv hYs hDd hYD hfin hD;simp only[Exit.inBlock,Exit.then];gi_wp2;refine qQ HDD (fun w' hmw=>⟨_,results_tmp rfl _ _ _,?_⟩);refine⟨?_,?_⟩
  ·have hk':=HK.out
   rw[show f.depth=vmax hdE 0 (xs.map Nd.v) by rw[HFIN.out,Tr.depth_pre f (hk'.isNods (by intro e;cases e)) hk'.ok]];rfl
  ·have h1:Mv (fun k=>k=hb∨k=hb+1) w W:=(Mv.of_bel HBQ).trans HMV (fun j hj=> .inl hj)
   have h2:Mv (fun _=>False) w W:=⟨h1.os,h1.tape,h1.output,h1.size,fun j hj _=>h1.block j hj (by have:=HHB.out;omega)⟩
   exact (h2.trans hmw (fun j hj=> .inr (by have:=HDL.out;have:=HBQ.size;omega))).bel
 ·rintro D xs Y W _ h
  exact h.elim
set_option maxHeartbeats 4000000
theorem JO(A:OA)(n c:Nat)(w:World):Calls Tryz.prog 58 #[.slice A n c,.func (.func 25) #[] #[]] w fun e w'=>e=.returned (.func (.func 104) #[] #[.pointer (some ⟨w.heap.size,0,none⟩),.pointer (some ⟨w.heap.size+1,0,none⟩)])/\w'=(w.alloc (.cells #[.slice A n c] 25)).alloc (.cells #[.func (.func 25) #[] #[]] 71):=by
 go_enter Tryz.func58,Tryz.ntmps58;go_wp2;go_ret;exact⟨rfl,rfl⟩
theorem qaI(k:Int)(s:LU)(n:Int)(p:Pl)(A:OA)(c:Nat)(B:OA)(bc:Nat)(kids arms:Tr)(w:World)(hk:KidsTr w (OldT w) .ex A kids.len c kids)(ha:KidsTr w (OldT w) .arms B arms.len bc arms)(hsz:kids.size+arms.size<=1000000) :
  Calls Tryz.prog 32 #[.agg #[.int .u8 k,.string ⟨s.toArray⟩,n,p.a,p.l,p.c,.slice A kids.len c,.slice B arms.len bc]] w (StR (.int .i64 ((1+arms.pdepth:Nat):Int)) w):=by
 have HP:Hid (∀ W,Bel w W->Calls Tryz.prog 63 #[.agg #[.int .u8 k,.string ⟨s.toArray⟩,n,p.a,p.l,p.c,.slice A kids.len c,.slice B arms.len bc]] W (Qu W (OldT W) .pat arms.pats)):=hid fun W hW=>jr k s n p A c B bc kids arms (OldT W) W (hk.bel hW) (ha.bel hW) (fun _ h=>h) (by have:=kids.len_le;omega) (by have:=arms.len_le;omega);have hps:arms.pats.size<=1000000:=by have:=arms.pats_size;omega
 have HPS:=hid hps;obtain⟨pd,hpd⟩:=nW arms.pdepth;have hpb:pd<=1000000:=by rw[hpd];have:=arms.pdepth_le;have:=arms.depth_le;omega
 have HD:Hid (∀ (A2:OA) (c2:Nat) (W:World),KidsTr W (OldT W) .pat A2 arms.pats.len c2 arms.pats->Calls Tryz.prog 82 #[.slice A2 arms.pats.len c2,.func (.func 64) #[] #[],.func (.func 83) #[] #[]] W (StR (.int .i64 (pd:Int)) W)):=hid fun A2 c2 W h=>by
  rw[hpd,<- Tr.pats_depth];exact qdy A2 arms.pats.len c2 arms.pats W h HPS
 rw[<- hpd];obtain⟨pl,hpl⟩:=nW arms.pats.len;have HPL:=hid hpl;rw[<- hpl]at HD;obtain⟨l1,hl1⟩:=nW kids.len;obtain⟨l2,hl2⟩:=nW arms.len;obtain⟨SS,hSS⟩:=nW (⟨s.toArray⟩:BA);rw[<- hl1,<- hl2,<- hSS]at HP ⊢;clear hk ha hsz hps hpd hpl hl1 hl2 hSS;go_enter Tryz.func32,Tryz.ntmps32;go_wp2_with fail;have hb1:Bel w (w.alloc (.cells #[.int .u8 k,SS,n,p.a,p.l,p.c,.slice A l1 c,.slice B l2 bc] 28)):=(Bel.refl w).alloc _;have HB1:=hid hb1;clear hb1;refine (HP _ HB1).mono ?_;rintro e w2 ⟨A2,c2,rfl,hb2,hk2⟩;have HB2:=hid (HB1.on hb2);have HK2:Hid (KidsTr w2 (OldT w2) .pat A2 pl c2 arms.pats):=hid (by rw[HPL.out];exact hk2.wide fun j hj=>by rcases hj with h | h;exact lT h hb2.size;exact h.2);rw[<- HPL.out];clear hb2 hk2 HP;go_wp2_with fail;refine (HD A2 c2 w2 HK2).mono ?_;rintro e w3 ⟨rfl,hb3⟩;have HB3:=hid (HB2.on hb3);clear hb3;go_wp2_with fail;go_ret;exact⟨by simp,HB3⟩
theorem qdA(A:OA)(n c:Nat)(f:Tr)(w:World)(hk:KidsTr w (OldT w) .ex A n c f)(hsz:f.size<=1000000) :
  Calls Tryz.prog 31 #[.slice A n c,.func (.func 25) #[] #[],.func (.func 32) #[] #[]] w (StR (.int .i64 (f.depth:Int)) w):=by
 have HK:=hid hk;clear hk;refine (callsIn_wide (n:=6)).1 ?_;refine callsIn_of_wp_marks Tryz.func31 rfl trivial ?_ rfl;simp only[Tryz.ntmps31,List.size_toArray,lC,lNn,Nat.reduceAdd,Nat.reduceSub,Array.replicate_succ,Array.replicate_zero,List.push_toArray,List.append_toArray,List.nil_append,cAa];gi_wp2_with (refine⟨trivial,?_⟩;gi_at_call 58;refine (callsIn_wide.2 (JO _ _ _ _)).mono ?_;rintro e w2 ⟨rfl,rfl⟩);obtain⟨hb,hhb⟩:=nW w.heap.size;obtain⟨wq,hwq⟩:=nW ((((w.alloc (.cells #[.func (.func 32) #[] #[]] 75)).alloc (.cells #[.int .i64 0] 3)).alloc (.cells #[.slice A n c] 25)).alloc (.cells #[.func (.func 25) #[] #[]] 71));have hbq:Bel w wq:=by rw[hwq];exact ((((Bel.refl w).alloc _).alloc _).alloc _).alloc _
 have hsq:wq.heap.size=hb+4:=by rw[hwq,hhb];simp
 have hq4:=blk4 w (.cells #[.func (.func 32) #[] #[]] 75) (.cells #[.int .i64 0] 3) (.cells #[.slice A n c] 25) (.cells #[.func (.func 25) #[] #[]] 71);rw[<- hwq,<- hhb]at hq4;obtain⟨q0,q1,q2,q3⟩:=hq4;replace q0:Boxed wq hb 75 (.func (.func 32) #[] #[]):=q0;replace q1:Boxed wq (hb+1) 3 (.int .i64 0):=q1;replace q2:Boxed wq (hb+2) 25 (.slice A n c):=q2;replace q3:Boxed wq (hb+3) 71 (.func (.func 25) #[] #[]):=q3;rw[<- hwq,<- hhb];have HBQ:=hid hbq;have HHB:=hid hhb;have HSQ:=hid hsq;have Q0:=hid q0;have Q1:=hid q1;have Q2:=hid q2;have Q3:=hid q3;clear hwq hbq hsq q0 q1 q2 q3 hhb;refine jd (α:=Nd) (gf:=104) (lb:=#[.pointer (some ⟨hb+2,0,none⟩),.pointer (some ⟨hb+3,0,none⟩)]) rfl (fun args w=>by kernel_rfl) (encs:=encX) (JP A n c (hb+2) (hb+3) f hsz) (fun _=>rfl)
  (fun pre x Y W W' h hs hk=>⟨h.1,h.2.keep (fun j hj=>hk j hj.1 hj.2) (fun j hj=>⟨lT hj.1 hs,hj.2⟩)⟩)
  (fun xs Y W=>(∀ k,Y k↔(k=hb∨k=hb+1))/\Boxed W hb 75 (.func (.func 32) #[] #[])/\Boxed W (hb+1) 3 (.int .i64 (vmax hdE 0 (xs.map Nd.v):Nat))/\hb+4<=W.heap.size) (fun _ _ _=>False) ?_ (fun _ _ _ _ h _ _=>h)
  (Y0:=fun k=>k=hb∨k=hb+1) ?_ (fun k hk=>by have:=HSQ.out;omega) ⟨fun _=>Iff.rfl,Q0.out,Q1.out,by rw[HSQ.out];exact lR _⟩
  (fun x bx=>{ tmps:=#[.slice A n c,.func (.func 25) #[] #[],.func (.func 32) #[] #[],undef,undef,.pointer (some ⟨hb,0,none⟩),(0:Int),.pointer (some ⟨hb+1,0,none⟩),x.v.d,.pointer (some ⟨bx,0,none⟩),.slice A n c,.func (.func 25) #[] #[],.func (.func 104) #[] #[.pointer (some ⟨hb+2,0,none⟩),.pointer (some ⟨hb+3,0,none⟩)],x.v.d,.agg #[.int .u8 x.v.k,.string ⟨x.v.s.toArray⟩,x.v.n,x.p.a,x.p.l,x.p.c,.slice x.A x.v.kids.len x.ca,.slice x.B x.v.arms.len x.cb],undef,undef,undef,undef,undef,undef,undef,undef],defers:=[] })
  (fun x=> .cells #[.int .u8 x.v.k,.string ⟨x.v.s.toArray⟩,x.v.n,x.p.a,x.p.l,x.p.c,.slice x.A x.v.kids.len x.ca,.slice x.B x.v.arms.len x.cb] 28) ?_ ?_ ?_ ?_
 ·rintro s Y W W' ⟨h1,h2,h3,h4⟩ hs hk
  exact⟨h1,(hk hb ((h1 hb).2 (.inl rfl))).trans h2,(hk (hb+1) ((h1 _).2 (.inr rfl))).trans h3,lL h4 hs⟩
 ·rintro Y W hbW hY
  have hn:∀ j,Y j->hb<=j/\j≠hb+2/\j≠hb+3:=fun j hj=>by
   have:=HSQ.out;rcases hY j hj with (h | h) | h <;> omega
  refine⟨hbW.blk Q2.out,hbW.blk Q3.out,(HK.keep (fun j hj=>(HBQ.on hbW).block j hj)).wide (fun j hj=>⟨lT hj (HBQ.on hbW).size,fun h=>?_⟩),fun h=>(hn _ h).2.1 rfl,fun h=>(hn _ h).2.2 rfl⟩;have h1:=(hn j h).1;have h2:j<w.heap.size:=hj;rw[HHB.out]at h1;omega
 ·rintro l x W K hK
  have HKK:=hid hK;clear hK;simp only[encX];gi_wp2;exact HKK
 ·rintro l bx pre x Y W hbx1 hbx2 hob hYb ⟨Y',hYY,⟨suf,hpre⟩,hat⟩ hmv0 hYl ⟨hY,hi1,hi2,hi3⟩ hYs
  have hmem:x.v∈f.pre 0:=by rw[hpre];simp
  have hvs:=Tr.pre_size f 0 x.v hmem;have HVS:Hid (x.v.kids.size+x.v.arms.size<=1000000/\x.v.d<=1000000):=hid (by omega);have HAT:=hid hat;have HYS:=hid hYs;have HY:=hid hY;have HYY:=hid hYY;have HI1:=hid hi1;have HI2:=hid hi2;have HI3:=hid hi3;have HBX:=hid hbx1;obtain⟨m,hm⟩:=nW (vmax hdE 0 (pre.map Nd.v));rw[<- hm]at HI2 hi2;have HM:=hid hm;obtain⟨xv,xp,xA,xca,xB,xcb⟩:=x;obtain⟨d,k,s,nn,kids,arms⟩:=xv;obtain⟨l1,hl1⟩:=nW kids.len;obtain⟨l2,hl2⟩:=nW arms.len;obtain⟨SS,hSS⟩:=nW (⟨s.toArray⟩:BA);obtain⟨hv,hhv⟩:=nW (hdE ⟨d,k,s,nn,kids,arms⟩);have HHV:=hid hhv;simp only at HAT HVS hob ⊢;have HC:Hid (∀ W',Bel W W'->Calls Tryz.prog 32 #[.agg #[.int .u8 k,.string ⟨s.toArray⟩,nn,xp.a,xp.l,xp.c,.slice xA kids.len xca,.slice xB arms.len xcb]] W' (StR (.int .i64 (hv:Int)) W')):=hid fun W' hW'=>by
   rw[hhv,show hdE ⟨d,k,s,nn,kids,arms⟩=1+arms.pdepth from rfl];rcases HAT.2 with ⟨_,ha⟩ | ⟨e | e,_⟩
   ·exact qaI k s nn xp xA xca xB xcb kids arms W' ((HAT.1.keep fun j hj=>hW'.block j hj.1).wide fun j hj=>lT hj.1 hW'.size) ((ha.keep fun j hj=>hW'.block j hj.1).wide fun j hj=>lT hj.1 hW'.size) HVS.1
   ·cases e
   ·cases e
  simp only[<- hl1,<- hl2,<- hSS]at hob HC ⊢;have hvb:hv<=1000001:=by rw[hhv];simp only[hdE];have:=arms.pdepth_le;have:=arms.depth_le;have:=HVS.1;omega
  have hdb:d<=1000000:=HVS.2;obtain⟨x0,x1,x2,x3,x4,x5,x6,x7⟩:=box8 hob;have eg:∀ args w,(callFunc 32 args).run Tryz.prog w=.ok (.enter 32 args) w:=fun args w=>by kernel_rfl
  have y0:=qd hbx2 x0;have y1:=qd hbx2 x1;have y2:=qd hbx2 x2;have y3:=qd hbx2 x3;have y4:=qd hbx2 x4;have y5:=qd hbx2 x5;have y6:=qd hbx2 x6;have y7:=qd hbx2 x7;have z0:=qd (by have:=HI3.out;omega) hi1.cell;have z1:=qd (by have:=HI3.out;omega) hi2.cell;clear hmv0 hpre hmem hvs hat hYs hY hYY hi1 hi2 hi3 hob hYl hbx1 hYb hl1 hl2 hSS hhv hm;gi_wp2_with fail;refine zV 7 (by kernel_rfl) (by kernel_rfl) (fun ⟨_,_,h⟩=>h) (by kernel_rfl) ?_;simp only[List.take_succ_cons,List.take_zero,jF,jG];repeat (go_big_quiet_step (exact (HC _ (Abw.bel _)).mono fun e w h=>⟨h.1,⟨_,(Abw.bel _).on h.2⟩,rfl⟩))
  refine wpQuiet_nil ?_;rintro w4 ⟨⟨w4,hb4⟩,rfl⟩;have HB4:=hid hb4;have f1:w4.cell? ⟨hb+1,0,none⟩=some (.int .i64 (m:Int)):=z1 ⟨w4,hb4⟩;have f2:w4.frozen? ⟨hb+1,0,none⟩=false:=Boxed.frozen (hb4.blk HI2);clear z0 z1 x0 x1 x2 x3 x4 x5 x6 x7 y0 y1 y2 y3 y4 y5 y6 y7;go_wp2_with fail;have hB1:Boxed w4 hb 75 (.func (.func 32) #[] #[]):=HB4.blk HI1;have hB2:Boxed w4 (hb+1) 3 (.int .i64 (m:Int)):=HB4.blk HI2;refine⟨Mv.set_ (p:=⟨hb+1,0,none⟩) (Mv.of_bel HB4) (.inl ((HY (hb+1)).2 (.inr rfl))) _,Y,⟨HY,hB1.other (by omega) _,?_,by have:=HB4.size;have:=HI3.out;simp;omega⟩,fun j hj=>⟨by have:=HB4.size;have:=HYS.out j hj;simp;omega,.inl hj⟩⟩;have e:((vmax hdE 0 (List.map Nd.v (pre++[⟨⟨d,k,s,nn,kids,arms⟩,xp,xA,xca,xB,xcb⟩])):Nat):Int)=max (m:Int) ((d:Int)+(hv:Int)):=by
   rw[List.map_append,List.map_cons,List.map_nil,JJ,<- HM.out,<- HHV.out];simp only;omega
  rw[e];exact hB2.set _
 ·rintro D xs Y W hD hfin ⟨hY,hi1,hi2,hi3⟩ hmv hYs hDd hYD
  have HI:=hid hi2;have HFIN:=hid hfin;have HMV:=hid hmv;have HDD:=hid hDd;have HDL:=hid hD;have c1:=hi2.cell;clear hY hi1 hi2 hi3 hmv hYs hDd hYD hfin hD;simp only[Exit.inBlock,Exit.then];gi_wp2;refine qQ HDD (fun w' hmw=>⟨_,results_tmp rfl _ _ _,?_⟩);refine⟨?_,?_⟩
  ·have hk':=HK.out
   rw[show f.depth=vmax hdE 0 (xs.map Nd.v) by rw[HFIN.out,Tr.depth_pre f (hk'.isNods (by intro e;cases e)) hk'.ok]];rfl
  ·have h1:Mv (fun k=>k=hb∨k=hb+1) w W:=(Mv.of_bel HBQ).trans HMV (fun j hj=> .inl hj)
   have h2:Mv (fun _=>False) w W:=⟨h1.os,h1.tape,h1.output,h1.size,fun j hj _=>h1.block j hj (by have:=HHB.out;omega)⟩
   exact (h2.trans hmw (fun j hj=> .inr (by have:=HDL.out;have:=HBQ.size;omega))).bel
 ·rintro D xs Y W _ h
  exact h.elim
end Go.Proofs.YtmloadclmjcbbaaGreatDoor.Mu
