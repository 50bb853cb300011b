import Derived.Deep.WholeRow
import Derived.Test.YtfpoelklhekfaaaGreatDoorQai
import Derived.Test.YtfpoelklhekfaaaGreatDoorQaj
import Derived.Test.YtfpoelklhekfaaaGreatDoorQaw
import Derived.Test.YtfpoelklhekfaaaGreatDoorQaz
open Go.Lib (hid)
namespace Go.Proofs.YtfpoelklhekfaaaGreatDoor.Mu
set_option maxHeartbeats 4000000
open Go Go.RowKit Go.Shelf
attribute [local go_sem] Oper.semAt_some
set_option linter.unusedVariables false
set_option maxRecDepth 100000
theorem qbJ(k:Int)(s:List UInt8)(n:Int)(p:Pl)(A:Option Addr)(c:Nat)(B:Option Addr)(bc:Nat)(kids arms:Tr)(k2:Int)(s2:List UInt8)(n2:Int)(p2:Pl)(A2:Option Addr)(c2:Nat)(B2:Option Addr)(bc2:Nat)(kids2 arms2:Tr)(w:World)
  (hk:KidsTr w (OldT w) .ex A kids.len c kids) (ha:KidsTr w (OldT w) .arms B arms.len bc arms) (hk2:KidsTr w (OldT w) .ex A2 kids2.len c2 kids2) (ha2:KidsTr w (OldT w) .arms B2 arms2.len bc2 arms2) (hsz:kids.size+arms.size<=1000000) (hsz2:kids2.size+arms2.size<=1000000) :
  Calls Tryz.prog 44 #[.agg #[.int .u8 k,.string ⟨s.toArray⟩,n,p.a,p.l,p.c,.slice A kids.len c,.slice B arms.len bc],.agg #[.int .u8 k2,.string ⟨s2.toArray⟩,n2,p2.a,p2.l,p2.c,.slice A2 kids2.len c2,.slice B2 arms2.len bc2]] w (qz (decide (k=k2)&&decide (s=s2)&&decide (n=n2)&&patQ arms arms2) w):=by
 have HP1:Hid (∀ W,Bel w W->Calls Tryz.prog 72 #[.agg #[.int .u8 k,.string ⟨s.toArray⟩,n,p.a,p.l,p.c,.slice A kids.len c,.slice B arms.len bc]] W (ji W (OldT W) .pat arms.pats)):=hid fun W hW=>zt k s n p A c B bc kids arms (OldT W) W (hk.bel hW) (ha.bel hW) (fun _ h=>h) (by have:=kids.len_le;omega) (by have:=arms.len_le;omega);have HP2:Hid (∀ W,Bel w W->Calls Tryz.prog 72 #[.agg #[.int .u8 k2,.string ⟨s2.toArray⟩,n2,p2.a,p2.l,p2.c,.slice A2 kids2.len c2,.slice B2 arms2.len bc2]] W (ji W (OldT W) .pat arms2.pats)):=hid fun W hW=>zt k2 s2 n2 p2 A2 c2 B2 bc2 kids2 arms2 (OldT W) W (hk2.bel hW) (ha2.bel hW) (fun _ h=>h) (by have:=kids2.len_le;omega) (by have:=arms2.len_le;omega);have HS:Hid (∀ (A:Option Addr) (c:Nat) (A':Option Addr) (c':Nat) (W:World),KidsTr W (OldT W) .pat A arms.pats.len c arms.pats->KidsTr W (OldT W) .pat A' arms2.pats.len c' arms2.pats->Calls Tryz.prog 87 #[.slice A arms.pats.len c,.slice A' arms2.pats.len c',.func (.func 73) #[] #[],.func (.func 88) #[] #[]] W (qz (patQ arms arms2) W)):=hid fun A c A' c' W h1 h2=>qd0 A arms.pats.len c A' arms2.pats.len c' arms.pats arms2.pats W h1 h2 (by have:=arms.pats_size;omega) (by have:=arms2.pats_size;omega);obtain⟨q,hq⟩:∃ q,q=patQ arms arms2:=⟨_,rfl⟩
 rw[<- hq]at HS ⊢;obtain⟨G1,hG1⟩:∃ G,G=arms.pats:=⟨_,rfl⟩
 obtain⟨G2,hG2⟩:∃ G,G=arms2.pats:=⟨_,rfl⟩
 rw[<- hG1]at HP1;rw[<- hG2]at HP2;rw[<- hG1,<- hG2]at HS;obtain⟨l1,hl1⟩:∃ l,l=kids.len:=⟨_,rfl⟩
 obtain⟨l2,hl2⟩:∃ l,l=kids2.len:=⟨_,rfl⟩
 obtain⟨l3,hl3⟩:∃ l,l=arms.len:=⟨_,rfl⟩
 obtain⟨l4,hl4⟩:∃ l,l=arms2.len:=⟨_,rfl⟩
 rw[<- hl1,<- hl3]at HP1 ⊢;rw[<- hl2,<- hl4]at HP2 ⊢;have hne:s≠s2->(⟨s.toArray⟩:ByteArray).toList≠(⟨s2.toArray⟩:ByteArray).toList:=qbs;clear hk ha hk2 ha2 hsz hsz2 hq hG1 hG2 hl1 hl2 hl3 hl4;by_cases dk:k=k2
 case neg=>
  have e:(decide (k=k2)&&decide (s=s2)&&decide (n=n2)&&q)=false:=by simp[dk]
  rw[e];have ek:(k==k2)=false:=by simpa using dk
  clear hne e;go_enter Tryz.func44,Tryz.ntmps44
  go_wp2_with fail
  go_quiet (fail)
  go_wp2_with fail
  go_ret
  exact⟨rfl,(((Bel.refl w).alloc _).alloc _).drewN _⟩
 subst dk;by_cases ds:s=s2
 case neg=>
  have e:(decide (k=k)&&decide (s=s2)&&decide (n=n2)&&q)=false:=by simp[ds]
  rw[e];obtain⟨S,hS⟩:∃ S:ByteArray,S=⟨s.toArray⟩:=⟨_,rfl⟩
  obtain⟨S2,hS2⟩:∃ S:ByteArray,S=⟨s2.toArray⟩:=⟨_,rfl⟩
  have qn:=hne ds;rw[<- hS,<- hS2]at qn;rw[<- hS,<- hS2];have qb:(S.toList==S2.toList)=false:=by simpa using qn
  clear hne e hS hS2 ds HP1 HP2 HS;go_enter Tryz.func44,Tryz.ntmps44
  go_wp2_with fail
  go_quiet (fail)
  go_wp2_with fail
  go_ret
  exact⟨rfl,(((Bel.refl w).alloc _).alloc _).drewN _⟩
 subst ds;obtain⟨S,hS⟩:∃ S:ByteArray,S=⟨s.toArray⟩:=⟨_,rfl⟩
 rw[<- hS]at HP1 HP2 ⊢;by_cases dn:n=n2
 case neg=>
  have e:(decide (k=k)&&decide (s=s)&&decide (n=n2)&&q)=false:=by simp[dn]
  rw[e];have en:(n==n2)=false:=by simpa using dn
  clear hne e hS HP1 HP2 HS;go_enter Tryz.func44,Tryz.ntmps44
  go_wp2_with fail
  go_quiet (fail)
  go_wp2_with fail
  go_ret
  exact⟨rfl,(((Bel.refl w).alloc _).alloc _).drewN _⟩
 subst dn;have e:(decide (k=k)&&decide (s=s)&&decide (n=n)&&q)=q:=by simp
 rw[e];clear hne e hS;have q1:=blk2 w (.cells #[.int .u8 k,S,n,p.a,p.l,p.c,.slice A l1 c,.slice B l3 bc] 43) (.cells #[.int .u8 k,S,n,p2.a,p2.l,p2.c,.slice A2 l2 c2,.slice B2 l4 bc2] 43);go_enter Tryz.func44,Tryz.ntmps44
 go_wp2_with fail
 have hb1:Bel w ((w.alloc (.cells #[.int .u8 k,S,n,p.a,p.l,p.c,.slice A l1 c,.slice B l3 bc] 43)).alloc (.cells #[.int .u8 k,S,n,p2.a,p2.l,p2.c,.slice A2 l2 c2,.slice B2 l4 bc2] 43)):=((Bel.refl w).alloc _).alloc _;obtain⟨w1,hw1⟩:∃ w1,w1=(w.alloc (.cells #[.int .u8 k,S,n,p.a,p.l,p.c,.slice A l1 c,.slice B l3 bc] 43)).alloc (.cells #[.int .u8 k,S,n,p2.a,p2.l,p2.c,.slice A2 l2 c2,.slice B2 l4 bc2] 43):=⟨_,rfl⟩
 have hs1:w1.heap.size=w.heap.size+2:=by rw[hw1];simp
 rw[<- hw1]at q1 hb1 ⊢;obtain⟨x0,x1,x2,x3,x4,x5,x6,x7⟩:=box8 q1.1;obtain⟨y0,y1,y2,y3,y4,y5,y6,y7⟩:=box8 q1.2;have HB1:=hid hb1;clear hw1 hb1 q1;refine qdq w.heap.size (w.heap.size+1) k n p.a p.l p.c p2.a p2.l p2.c S A B A2 B2 l1 c l3 bc l2 c2 l4 bc2 G1 G2 q _ _ _ _ _ _ _ _ _ _ _ _ _ _ _ _ _ _ _ _ _ _ _ _ _ _ _ _ _ _ w1 (by show w.heap.size<w1.heap.size;omega) (by show w.heap.size+1<w1.heap.size;omega) x0 y0 x1 y1 x2 y2 x3 y3 x4 y4 x5 y5 x6 y6 x7 y7 (fun W hW=>HP1.out W (HB1.out.drew.on hW)) (fun W hW=>HP2.out W (HB1.out.drew.on hW)) HS.out _ ?_;intro V w4 hb4 hv1;simp only[regAx,List.drop_succ_cons,List.drop_zero,qf6,hv1];have HB4:=hid (HB1.out.drew.on hb4);clear hb4 hv1 x0 x1 x2 x3 x4 x5 x6 x7 y0 y1 y2 y3 y4 y5 y6 y7;go_wp2_with fail
 go_ret
 exact⟨rfl,HB4.out⟩
theorem qgz(A:Option Addr)(n c:Nat)(B:Option Addr)(m d:Nat)(f g:Tr)(w:World)(hk:KidsTr w (OldT w) .ex A n c f)(hk2:KidsTr w (OldT w) .ex B m d g)(hsz:f.size<=1000000)(hsz2:g.size<=1000000) :
  Calls Tryz.prog 86 #[.slice A n c,.slice B m d,.func (.func 44) #[] #[]] w (qz (f.hds patQ g) w):=by
 have H:=hid hk;have H2:=hid hk2;have HL:Hid (n=f.len):=hid hk.1;have HL2:Hid (m=g.len):=hid hk2.1;have HSZ:=hid (And.intro hsz hsz2);have hn:n<=1000000:=by have:=hk.1;have:=f.len_le;omega
 have hm:m<=1000000:=by have:=hk2.1;have:=g.len_le;omega
 obtain⟨r,hr⟩:∃ r,r=f.hds patQ g:=⟨_,rfl⟩
 rw[<- hr];have HR:=hid hr;clear hk hk2 hsz hsz2 hr;have eg:∀ args w,(callFunc 44 args).run Tryz.prog w=.ok (.enter 44 args) w:=fun args w=>by kernel_rfl
 by_cases hnm:n=m
 case neg=>
  obtain rfl:r=false:=by
   rw[HR.out,Bool.eq_false_iff];intro h;have:=Tr.hds_len _ _ _ h;exact hnm (by rw[HL.out,HL2.out,this])
  have e0:((n:Int) != (m:Int))=true:=by simp;omega
  go_enter Tryz.func86,Tryz.ntmps86
  go_wp2_with fail
  go_ret
  exact⟨rfl,Bel.refl _⟩
 subst hnm;go_enter Tryz.func86,Tryz.ntmps86
 go_wp2_with fail
 go_loopw [17] (fun i wr=>∃ j:Nat,j<=n/\i=.int .i64 (j:Int)/\Hid (r=(f.drp j).hds patQ (g.drp j))/\Hid (Bel w wr)) (fun i _=>n-(intOf i).toNat)
 case atStart=>exact⟨0,Nat.zero_le _,rfl,hid (by rw[Tr.drp_zero,Tr.drp_zero];exact HR.out),hid (Bel.refl _)⟩
 case round=>
  obtain⟨j,hj,rfl,HRJ,HB⟩:=hrel;by_cases hlt:j<n
  ·obtain⟨ub,uo,eA,hob,hfo⟩:=(H.out.bel HB.out).2.2 (by omega)
   obtain⟨ub2,uo2,eA2,hob2,hfo2⟩:=(H2.out.bel HB.out).2.2 (by omega);subst eA eA2;obtain⟨k,s,nn,p,kids,arms,en,hd⟩:=TrAt.nod_at (by intro e;cases e) f j ub uo hfo (by rw[<- HL.out];exact hlt);obtain⟨k2,s2,nn2,p2,kids2,arms2,en2,hd2⟩:=TrAt.nod_at (by intro e;cases e) g j ub2 uo2 hfo2 (by rw[<- HL2.out];exact hlt);obtain⟨A',ca',B',cb',hc,hk',ha',_⟩:=hd.parts;obtain⟨A2',ca2',B2',cb2',hc2,hk2',ha2',_⟩:=hd2.parts;have hsn:=Tr.nth_size f j;have hsn2:=Tr.nth_size g j;rw[en]at hsn;rw[en2]at hsn2;simp only[Tr.size]at hsn hsn2;obtain⟨hb,hhb⟩:∃ hb,hb=(decide (k=k2)&&decide (s=s2)&&decide (nn=nn2)&&patQ arms arms2):=⟨_,rfl⟩
   have HRN:Hid (r=(hb&&(f.drp (j+1)).hds patQ (g.drp (j+1)))):=hid (by
    rw[HRJ.out,Tr.drp_at f j en,Tr.drp_at g j en2,hhb];rfl)
   have HC:Hid (∀ W,Bel wr W->Calls Tryz.prog 44 #[.agg #[.int .u8 k,.string ⟨s.toArray⟩,nn,p.a,p.l,p.c,.slice A' kids.len ca',.slice B' arms.len cb'],.agg #[.int .u8 k2,.string ⟨s2.toArray⟩,nn2,p2.a,p2.l,p2.c,.slice A2' kids2.len ca2',.slice B2' arms2.len cb2']] W (qz hb W)):=hid fun W hW=>by
    rw[hhb];have hW':Bel w W:=HB.out.on hW;rcases ha' with ⟨_,ha'⟩ | ⟨e | e,_⟩
    ·rcases ha2' with ⟨_,ha2'⟩ | ⟨e | e,_⟩
     ·exact qbJ k s nn p A' ca' B' cb' kids arms k2 s2 nn2 p2 A2' ca2' B2' cb2' kids2 arms2 W (hk'.bel hW) (ha'.bel hW) (hk2'.bel hW) (ha2'.bel hW) (by have:=HSZ.out;omega) (by have:=HSZ.out;omega)
     ·cases e
     ·cases e
    ·cases e
    ·cases e
   have y0:=hc 0 _ rfl;have y1:=hc 1 _ rfl;have y2:=hc 2 _ rfl;have y3:=hc 3 _ rfl;have y4:=hc 4 _ rfl;have y5:=hc 5 _ rfl;have y6:=hc 6 _ rfl;have y7:=hc 7 _ rfl;have z0:=hc2 0 _ rfl;have z1:=hc2 1 _ rfl;have z2:=hc2 2 _ rfl;have z3:=hc2 3 _ rfl;have z4:=hc2 4 _ rfl;have z5:=hc2 5 _ rfl;have z6:=hc2 6 _ rfl;have z7:=hc2 7 _ rfl;simp only[Nat.add_zero,Sh.kd,Sh.sz]at y0 y1 y2 y3 y4 y5 y6 y7 z0 z1 z2 z3 z4 z5 z6 z7;obtain⟨l1,hl1⟩:∃ l,l=kids.len:=⟨_,rfl⟩
   obtain⟨l2,hl2⟩:∃ l,l=kids2.len:=⟨_,rfl⟩
   obtain⟨l3,hl3⟩:∃ l,l=arms.len:=⟨_,rfl⟩
   obtain⟨l4,hl4⟩:∃ l,l=arms2.len:=⟨_,rfl⟩
   obtain⟨SS,hSS⟩:∃ S:ByteArray,S=⟨s.toArray⟩:=⟨_,rfl⟩
   obtain⟨SS2,hSS2⟩:∃ S:ByteArray,S=⟨s2.toArray⟩:=⟨_,rfl⟩
   rw[<- hSS,<- hSS2,<- hl1,<- hl2,<- hl3,<- hl4]at HC;rw[<- hSS]at y1;rw[<- hSS2]at z1;rw[<- hl1]at y6;rw[<- hl2]at z6;rw[<- hl3]at y7;rw[<- hl4]at z7;have i1:(0:Int)<=(j:Int):=by omega
   have i2:(j:Int)<(n:Int):=by omega
   have HLT:=hid hlt;clear hc hc2 hk' hk2' ha' ha2' hsn hsn2 en en2 hd hd2 hfo hfo2 hl1 hl2 hl3 hl4 hSS hSS2 hhb;have hob':ub<wr.heap.size:=hob;have hob2':ub2<wr.heap.size:=hob2;clear hob hob2;go_wp2_with fail
   refine (HC.out _ (((Bel.refl wr).alloc _).alloc _)).mono ?_;rintro e w3 ⟨rfl,hb3⟩;have HB3:=hid (((HB.out.alloc _).alloc _).on hb3);clear hb3 HC y0 y1 y2 y3 y4 y5 y6 y7 z0 z1 z2 z3 z4 z5 z6 z7;cases hb
   ·obtain rfl:r=false:=by rw[HRN.out];rfl
    go_wp2_with fail
    go_ret
    exact⟨rfl,HB3.out⟩
   ·have HR':Hid (r=(f.drp (j+1)).hds patQ (g.drp (j+1))):=hid (by rw[HRN.out];rfl)
    go_wp2_with fail
    go_roundw
    case rel=>exact⟨j+1,HLT.out,by go_num,HR',HB3⟩
    case measure=>have:=HLT.out;simp[intOf];omega
  ·obtain rfl:j=n:=by omega
   obtain rfl:r=true:=by rw[HRJ.out,Tr.drp_end f j (by rw[<- HL.out];exact Nat.le_refl _),Tr.drp_end g j (by rw[<- HL2.out];exact Nat.le_refl _)];rfl
   go_wp2_with fail
   go_ret
   exact⟨rfl,HB.out⟩
theorem qe3:(Tryz.prog.info? 152).map (fun i=>(i.zero,i.size,i.bytes))=some (some (.agg #[.slice none 0 0,.slice none 0 0]),2,48):=by kernel_rfl
theorem qd1(A:Option Addr)(n c:Nat)(B:Option Addr)(m d:Nat)(f g:Tr)(w:World)(hk:KidsTr w (OldT w) .ex A n c f)(hk2:KidsTr w (OldT w) .ex B m d g)(hsz:f.size<=1000000)(hsz2:g.size<=1000000) :
  Calls Tryz.prog 43 #[.slice A n c,.slice B m d,.func (.func 34) #[] #[],.func (.func 44) #[] #[]] w (qz (f.same g) w):=by
 have HK:=hid hk;have HK2:=hid hk2;have HSZ:=hid (And.intro hsz hsz2);obtain⟨r,hr⟩:∃ r,r=f.same g:=⟨_,rfl⟩
 rw[<- hr];have HR:=hid hr;have HN:=hid (And.intro hk.1 hk2.1);clear hk hk2 hsz hsz2 hr;obtain⟨i0,hi0,hz0,hz1,hz2⟩:=info_parts qe3;have eg:∀ args w,(callFunc 44 args).run Tryz.prog w=.ok (.enter 44 args) w:=fun args w=>by kernel_rfl
 have ek:∀ args w,(callFunc 34 args).run Tryz.prog w=.ok (.enter 34 args) w:=fun args w=>by kernel_rfl
 go_enter Tryz.func43,Tryz.ntmps43
 go_wp2_with fail
 obtain⟨base,hbase⟩:∃ base,base=w.heap.size:=⟨_,rfl⟩
 obtain⟨w1,hw1⟩:∃ w1,w1=w.alloc (.cells #[.slice A n c,.slice B m d] 152):=⟨_,rfl⟩
 have hb1:Bel w w1:=by rw[hw1];exact (Bel.refl w).alloc _
 have hq1:w1.heap[base]?=some (.cells #[.slice A n c,.slice B m d] 152 (0,0)):=by rw[hw1,hbase];exact blk1 w _
 have hs1:w1.heap.size=base+1:=by rw[hw1,hbase];simp
 rw[<- hw1,<- hbase];have HBS:=hid hbase;have HB1:=hid hb1;have HB2:Hid (base<=w1.heap.size):=hid (by omega);have HRW:Hid (w1.ownsRow base 152 2 (.slice (some ⟨base,0,none⟩) 1 1) 1 (prV [⟨⟨A,c,f⟩,⟨B,d,g⟩⟩])):=hid ⟨rfl,.inr ⟨base,1,_,rfl,Nat.le_refl _,hq1,Nat.le_refl _,by unfold maxLen;omega,rfl,by simp[prV,Pr.cells,It.val,<- HN.out.1,<- HN.out.2]⟩⟩;have HPI:Hid (PrI w1 (some ⟨base,0,none⟩) .ex [⟨⟨A,c,f⟩,⟨B,d,g⟩⟩]):=hid (by
  intro x hx;simp at hx;subst hx;have hw:∀ j,OldT w j->OkI w1 (fun _=>False) (some ⟨base,0,none⟩) j:=fun j hj=>⟨Nat.lt_of_lt_of_le hj hb1.size,fun h=>h,fun o e=>by cases e;have:base<w.heap.size:=hj;omega⟩
  have k1:=HK.out;have k2:=HK2.out;rw[HN.out.1]at k1;rw[HN.out.2]at k2;exact⟨⟨(k1.keep fun j hj=>hb1.block j hj).wide hw,HSZ.out.1⟩,⟨(k2.keep fun j hj=>hb1.block j hj).wide hw,HSZ.out.2⟩⟩)
 have HRA:Hid (r=allP [⟨⟨A,c,f⟩,⟨B,d,g⟩⟩]):=hid (by rw[HR.out];simp[allP]);have HMP:Hid (msP [⟨⟨A,c,f⟩,⟨B,d,g⟩⟩]<=1000001):=hid (by have:=HSZ.out.1;simp only[msP];omega);clear hb1 hq1 hs1 hw1 hbase HK HK2 HSZ HR HN;go_loopg [9] (msP [⟨⟨A,c,f⟩,⟨B,d,g⟩⟩]) (fun gk v wr=>∃ (S:List Pr) (A:Option Addr) (cc m:Nat),v=.slice A m cc/\Hid (m=S.length)/\Hid (gk=msP S)/\Hid (msP S<=1000001)/\Hid (wr.ownsRow base 152 2 (.slice A m cc) m (prV S))/\Hid (PrI wr A .ex S)/\Hid (r=allP S)/\Hid (Bel w wr)/\Hid (base<=wr.heap.size))
 case atStart=>exact⟨_,_,_,_,rfl,hid rfl,hid rfl,HMP,HRW,HPI,HRA,HB1,HB2⟩
 case round=>
  clear HRW HPI HRA HB1 HB2 HMP;obtain⟨S,A,cc,m,rfl,HM,HGK,HMS,HRW,HPI,HRA,HB,HBL⟩:=hrel;cases S with
  | nil=>
   obtain rfl:m=0:=HM.out;obtain rfl:r=true:=by rw[HRA.out];rfl
   go_wp2_with fail
   go_ret
   exact⟨rfl,HB.out⟩
  | cons x S=>
   obtain⟨mm,hmm⟩:∃ mm,mm=S.length:=⟨_,rfl⟩
   have hm:m=mm+1:=by rw[hmm];exact HM.out
   subst hm;obtain⟨g',eA,hbg,hgl,hcc,hcm,hca,hcb,hrow⟩:=qfX hmm HRW.out;subst eA;obtain⟨⟨xA,xc,xf⟩,⟨yA,yc,yf⟩⟩:=x;obtain⟨⟨kx,sx⟩,⟨ky,sy⟩⟩:=HPI.out _ List.mem_cons_self;simp only at kx ky sx sy;obtain⟨xl,hxl⟩:∃ l,l=xf.len:=⟨_,rfl⟩
   obtain⟨yl,hyl⟩:∃ l,l=yf.len:=⟨_,rfl⟩
   simp only[It.val,<- hxl]at hca;simp only[It.val,<- hyl]at hcb;rw[<- hxl]at kx;rw[<- hyl]at ky;obtain⟨hb,hhb⟩:∃ hb,hb=xf.hds patQ yf:=⟨_,rfl⟩
   have hOld:∀ j,OkI wr (fun _=>False) (some ⟨g',0,none⟩) j->OldT wr j:=fun j hj=>hj.1;have HE:Hid (∀ W,Bel wr W->Calls Tryz.prog 86 #[.slice xA xl xc,.slice yA yl yc,.func (.func 44) #[] #[]] W (qz hb W)):=hid fun W hW=>by
    rw[hhb];exact qgz xA xl xc yA yl yc xf yf W ((kx.wide hOld).bel hW) ((ky.wide hOld).bel hW) sx sy
   have HSP:Hid (r=((hb&&xf.kidsSame yf)&&allP S)):=hid (by
    rw[HRA.out];simp only[allP,List.all_cons];rw[hhb,<- Tr.same_split xf yf (kx.isNods (by intro e;cases e)) (ky.isNods (by intro e;cases e)) kx.ok ky.ok])
   have HKX:=hid kx;have HKY:=hid ky;have HSXY:=hid (And.intro sx sy);have HHB:=hid hhb;have HXL:=hid hxl;have HYL:=hid hyl;have HROW:=hid hrow;have HBG:=hid hbg;have HMM:=hid hmm;have hm63:mm+1<=9223372036854775807:=by unfold maxLen at hcm;omega
   have i0':(0:Int)<=(mm:Int):=by omega
   have i1:(mm:Int)<(mm:Int)+1:=by omega
   have i4:(mm:Int)<=(cc:Int):=by omega
   have z0:=qa hgl hca;have z1:=qa hgl hcb;clear kx ky sx sy hhb hxl hyl hrow hbg hmm hcm hOld HRW HRA;go_wp2_with fail
   go_quiet (fail)
   have HB4:Hid (∀ k,Bel wr (wr.drewN k)):=hid fun k=>(Bel.refl wr).drewN k;go_wp2_with fail
   clear z0 z1 hca hcb;refine (HE.out _ (HB4.out _)).mono ?_;rintro e w5 ⟨rfl,hb5⟩;have HB5:=hid ((HB4.out _).on hb5);have HBW5:=hid (HB.out.on ((HB4.out _).on hb5));clear hb5 HE HB4;cases hb
   ·obtain rfl:r=false:=by rw[HSP.out];rfl
    go_wp2_with fail
    go_ret
    exact⟨rfl,HBW5.out⟩
   ·have hlen:xl=yl:=by rw[HXL.out,HYL.out];exact Tr.hds_len _ _ _ HHB.out.symm
    subst hlen;have hxl2:xl<=1000000:=by rw[HXL.out];have:=xf.len_le;have:=HSXY.out.1;omega
    have hst:∀ j,OkI wr (fun _=>False) (some ⟨g',0,none⟩) j->w5.heap[j]?=wr.heap[j]?:=fun j hj=>HB5.out.block j hj.1;have HIN:Hid (KidsTr w5 (OkI w5 (fun _=>False) (some ⟨g',0,none⟩)) .ex xA xl xc xf/\KidsTr w5 (OkI w5 (fun _=>False) (some ⟨g',0,none⟩)) .ex yA xl yc yf):=hid ⟨HKX.out.stepI HB5.out.size hst (fun _ h=>h.elim) (fun j o e=> .inl ⟨o,e⟩),HKY.out.stepI HB5.out.size hst (fun _ h=>h.elim) (fun j o e=> .inl ⟨o,e⟩)⟩;have HPS:Hid (PrI w5 (some ⟨g',0,none⟩) .ex S):=hid (PrI.step (fun y hy=>HPI.out y (List.mem_cons_of_mem _ hy)) HB5.out.size hst (fun j o e=> .inl ⟨o,e⟩));have HRO:Hid (w5.ownsRow base 152 2 (.slice (some ⟨g',0,none⟩) mm cc) mm (prV S)):=hid (qp HROW.out HB5.out);have HBL5:Hid (base<=w5.heap.size):=hid (Nat.le_trans HBL.out HB5.out.size);have HRI:Hid (r=(allP S&&(xf.drp 0).kidsSame (yf.drp 0))):=hid (by rw[Tr.drp_zero,Tr.drp_zero,HSP.out,Bool.true_and,Bool.and_comm]);have HMI:Hid (msP S+(xf.drp 0).size<=msP S+xf.size):=hid (by rw[Tr.drp_zero];exact Nat.le_refl _);have HMB:Hid (msP S+xf.size<=1000000):=hid (by have:=HMS.out;simp only[msP]at this;omega);have HM':=HMM;clear hst HKX HKY HB5 HPI HROW HSP HHB;go_wp2_with fail
    go_loopw [9,48] (fun v iv wx=>∃ (q:Nat) (S2:List Pr) (A2:Option Addr) (c2 m2:Nat),q<=xl/\iv=.int .i64 (q:Int)/\v=.slice A2 m2 c2/\Hid (m2=S2.length)/\Hid (wx.ownsRow base 152 2 (.slice A2 m2 c2) m2 (prV S2))/\Hid (PrI wx A2 .ex S2)/\Hid (KidsTr wx (OkI wx (fun _=>False) A2) .ex xA xl xc xf/\KidsTr wx (OkI wx (fun _=>False) A2) .ex yA xl yc yf)/\Hid (r=(allP S2&&(xf.drp q).kidsSame (yf.drp q)))/\Hid (msP S2+(xf.drp q).size<=msP S+xf.size)/\Hid (Bel w wx)/\Hid (base<=wx.heap.size)) (fun _ i _=>xl-(intOf i).toNat)
    case atStart=>exact⟨0,S,_,_,_,Nat.zero_le _,rfl,rfl,HMM,HRO,HPS,HIN,HRI,HMI,HBW5,HBL5⟩
    case round=>
     clear HRO HPS HIN HRI HMI HBW5 HBL5;obtain⟨q,S2,A2,c2,m2,hq,rfl,rfl,HM2,HR2,HP2,HI2,HRR,HMM2,HBW,HBLX⟩:=hrel;obtain⟨wx,rfl⟩:∃ wx:World,wx=wr:=⟨_,rfl⟩
     by_cases hlt:q<xl
     ·obtain⟨ub,uo,eA,hob,hfo⟩:=HI2.out.1.2.2 (by omega)
      obtain⟨ub2,uo2,eA2,hob2,hfo2⟩:=HI2.out.2.2.2 (by omega);subst eA eA2;obtain⟨k,s,nn,p,kids,arms,en,hd⟩:=TrAt.nod_at (by intro e;cases e) xf q ub uo hfo (by rw[<- HXL.out];exact hlt);obtain⟨k2,s2,nn2,p2,kids2,arms2,en2,hd2⟩:=TrAt.nod_at (by intro e;cases e) yf q ub2 uo2 hfo2 (by rw[<- HYL.out];exact hlt);obtain⟨A',ca',B',cb',hc,hk',ha',_⟩:=hd.parts;obtain⟨A2',ca2',B2',cb2',hc2,hk2',ha2',_⟩:=hd2.parts;have hdq:=Tr.drp_at xf q en;have hdq2:=Tr.drp_at yf q en2;have hdsz:=Tr.drp_size xf q;have hdsz2:=Tr.drp_size yf q;rw[hdq]at hdsz;rw[hdq2]at hdsz2;simp only[Tr.size]at hdsz hdsz2;have sx1:=HSXY.out.1;have sy1:=HSXY.out.2;obtain⟨F1,hF1⟩:∃ F,F=kids.app arms.exs:=⟨_,rfl⟩
      obtain⟨F2,hF2⟩:∃ F,F=kids2.app arms2.exs:=⟨_,rfl⟩
      have HF:Hid (r=(allP S2&&(F1.same F2&&(xf.drp (q+1)).kidsSame (yf.drp (q+1))))):=hid (by
       rw[HRR.out,hdq,hdq2,hF1,hF2];rfl)
      have hex:=Tr.exs_size arms;have hex2:=Tr.exs_size arms2;have HF1:Hid (F1.size<=kids.size+arms.size/\F2.size<=1000000/\F1.size<=1000000):=hid (by rw[hF1,hF2,Tr.app_size,Tr.app_size];omega);have HMQ:Hid (msP S2+(1+F1.size+(xf.drp (q+1)).size)<=msP S+xf.size):=hid (by
       have h:=HMM2.out;rw[hdq]at h;simp only[Tr.size]at h;have:=HF1.out.1;omega)
      have HC1:Hid (∀ W,Bel wx W->Calls Tryz.prog 34 #[.agg #[.int .u8 k,.string ⟨s.toArray⟩,nn,p.a,p.l,p.c,.slice A' kids.len ca',.slice B' arms.len cb']] W (ji W (OkI wx (fun _=>False) A2) .ex F1)):=hid fun W hW=>by
       rw[hF1];rcases ha' with ⟨_,ha'⟩ | ⟨e | e,_⟩
       ·exact zr k s nn p A' ca' B' cb' kids arms (OkI wx (fun _=>False) A2) W (hk'.keep fun j hj=>hW.block j hj.1) (ha'.keep fun j hj=>hW.block j hj.1) (fun j hj=>Nat.lt_of_lt_of_le hj.1 hW.size) (by have:=kids.len_le;omega) (by have:=arms.len_le;omega)
       ·cases e
       ·cases e
      have HC2:Hid (∀ W,Bel wx W->Calls Tryz.prog 34 #[.agg #[.int .u8 k2,.string ⟨s2.toArray⟩,nn2,p2.a,p2.l,p2.c,.slice A2' kids2.len ca2',.slice B2' arms2.len cb2']] W (ji W (OkI wx (fun _=>False) A2) .ex F2)):=hid fun W hW=>by
       rw[hF2];rcases ha2' with ⟨_,ha2'⟩ | ⟨e | e,_⟩
       ·exact zr k2 s2 nn2 p2 A2' ca2' B2' cb2' kids2 arms2 (OkI wx (fun _=>False) A2) W (hk2'.keep fun j hj=>hW.block j hj.1) (ha2'.keep fun j hj=>hW.block j hj.1) (fun j hj=>Nat.lt_of_lt_of_le hj.1 hW.size) (by have:=kids2.len_le;omega) (by have:=arms2.len_le;omega)
       ·cases e
       ·cases e
      have y0:=hc 0 _ rfl;have y1:=hc 1 _ rfl;have y2:=hc 2 _ rfl;have y3:=hc 3 _ rfl;have y4:=hc 4 _ rfl;have y5:=hc 5 _ rfl;have y6:=hc 6 _ rfl;have y7:=hc 7 _ rfl;have z0:=hc2 0 _ rfl;have z1:=hc2 1 _ rfl;have z2:=hc2 2 _ rfl;have z3:=hc2 3 _ rfl;have z4:=hc2 4 _ rfl;have z5:=hc2 5 _ rfl;have z6:=hc2 6 _ rfl;have z7:=hc2 7 _ rfl;simp only[Nat.add_zero,Sh.kd,Sh.sz]at y0 y1 y2 y3 y4 y5 y6 y7 z0 z1 z2 z3 z4 z5 z6 z7;obtain⟨l1,hl1⟩:∃ l,l=kids.len:=⟨_,rfl⟩
      obtain⟨l2,hl2⟩:∃ l,l=kids2.len:=⟨_,rfl⟩
      obtain⟨l3,hl3⟩:∃ l,l=arms.len:=⟨_,rfl⟩
      obtain⟨l4,hl4⟩:∃ l,l=arms2.len:=⟨_,rfl⟩
      obtain⟨SS,hSS⟩:∃ S:ByteArray,S=⟨s.toArray⟩:=⟨_,rfl⟩
      obtain⟨SS2,hSS2⟩:∃ S:ByteArray,S=⟨s2.toArray⟩:=⟨_,rfl⟩
      rw[<- hSS]at y1;rw[<- hSS2]at z1;rw[<- hl1]at y6;rw[<- hl2]at z6;rw[<- hl3]at y7;rw[<- hl4]at z7;rw[<- hSS,<- hl1,<- hl3]at HC1;rw[<- hSS2,<- hl2,<- hl4]at HC2;have j1:(0:Int)<=(q:Int):=by omega
      have j2:(q:Int)<(xl:Int):=by omega
      have HLT:=hid hlt;have hob':ub<wx.heap.size:=hob.1;have hob2':ub2<wx.heap.size:=hob2.1;clear hc hc2 hk' hk2' ha' ha2' en en2 hd hd2 hfo hfo2 hl1 hl2 hl3 hl4 hSS hSS2 hdq hdq2 hdsz hdsz2 sx1 sy1 hex hex2 hob hob2 hF1 hF2;have hA2:∀ j o,A2=some ⟨j,o,none⟩->j<wx.heap.size:=by
       intro j o e;subst e;exact (HR2.out.lt j rfl).2
      have HA2:=hid hA2;clear hA2;go_wp2_with fail
      refine qdy ub uo ub2 uo2 xl xc yc q k nn p.a p.l p.c k2 nn2 p2.a p2.l p2.c SS SS2 A' B' A2' B2' l1 ca' l3 cb' l2 ca2' l4 cb2' F1 F2 (OkI wx (fun _=>False) A2) wx.heap.size _ _ _ _ _ _ _ _ _ _ _ _ _ _ _ _ _ _ _ _ _ _ _ _ _ _ _ _ _ _ _ _ _ _ _ _ _ _ _ _ _ _ _ _ _ _ _ _ _ _ _ _ _ _ _ _ _ _ _ _ _ _ _ _ _ _ _ _ _ _ _ _ _ _ _ wx j1 j2 (Nat.le_refl _) (fun j hj=>hj.1) hob' hob2' y0 z0 y1 z1 y2 z2 y3 z3 y4 z4 y5 z5 y6 z6 y7 z7 (fun W hW=>HC1.out W ((Bel.refl wx).drew.on hW)) (fun W hW=>HC2.out W ((Bel.refl wx).drew.on hW)) _ ?_;intro V w7 hb7 hv5 hv11;obtain⟨_,U1,C1,e5,hk5⟩:=hv5;obtain⟨_,U2,C2,e11,hk11⟩:=hv11;simp only[regKx,List.drop_succ_cons,List.drop_zero,qf9,e5,e11];have HB7:Hid (Bel wx w7):=hid ((Bel.refl wx).drew.on hb7);have hwd:∀ j,(OkI wx (fun _=>False) A2 j∨(wx.heap.size<=j/\j<w7.heap.size))->OkI w7 (fun _=>False) A2 j:=fun j hj=>by
       rcases hj with hj | hj
       ·exact OkI.step HB7.out.size (fun _ h=>h.elim) (fun j o e=> .inl ⟨o,e⟩) hj
       ·exact⟨hj.2,fun h=>h,fun o e=>by have:=HA2.out j o e;omega⟩
      obtain⟨L1,hL1⟩:∃ l,l=F1.len:=⟨_,rfl⟩
      obtain⟨L2,hL2⟩:∃ l,l=F2.len:=⟨_,rfl⟩
      rw[<- hL1]at hk5 ⊢;rw[<- hL2]at hk11 ⊢;have HKK7:=hid (And.intro (hk5.wide hwd) (hk11.wide hwd));have HLL:=hid (And.intro hL1 hL2);clear hb7 e5 e11 hk5 hk11 HC1 HC2 hL1 hL2 hwd y0 y1 y2 y3 y4 y5 y6 y7 z0 z1 z2 z3 z4 z5 z6 z7;have HRW7:=hid (qp HR2.out HB7.out);have HPI7:=hid (qfW HP2.out HB7.out);have HI7:=hid (And.intro (jf HI2.out.1 HB7.out) (jf HI2.out.2 HB7.out));have hbl7:base<=w7.heap.size:=Nat.le_trans HBLX.out HB7.out.size;have hm2b:m2<=1000001:=by
       rw[HM2.out];have:=qal S2;have:=HMQ.out;have:=HMB.out;omega
      by_cases h1:L1=0
      ·by_cases h2:L2=0
       ·subst h1 h2
        have HR8:Hid (r=(allP S2&&(xf.drp (q+1)).kidsSame (yf.drp (q+1)))):=hid (by
         rw[HF.out,Tr.len_nil F1 HLL.out.1.symm,Tr.len_nil F2 HLL.out.2.symm];simp[Tr.same])
        have HMS8:Hid (msP S2+(xf.drp (q+1)).size<=msP S+xf.size):=hid (by have:=HMQ.out;omega);have HBW8:=hid (HBW.out.on HB7.out);have HBL8:=hid hbl7;go_wp2_with fail
        go_roundw
        case rel=>exact⟨q+1,S2,A2,c2,m2,HLT.out,by go_num,rfl,HM2,HRW7,HPI7,HI7,HR8,HMS8,HBW8,HBL8⟩
        case measure=>have:=HLT.out;simp[intOf];omega
       ·subst h1
        have d2:decide ((0:Int)<(L2:Int))=true:=by simp;omega
        have d3:decide (0<L2)=true:=by simp;omega
        go_wp2_with (at_builtin;refine jB ?_)
        unfold jj;refine wpList_append_own_at _ rfl _ _ 153 rfl base 152 i0 (.agg #[.slice none 0 0,.slice none 0 0]) 2 48 Tryz.underlying153 hi0 hz0 hz1 hz2 rfl (by decide) (.slice A2 m2 c2) m2 _ rfl (HRW7.out.alloc _) ⟨w7.heap.size,0,none⟩ 1 1 [.slice U1 0 C1,.slice U2 L2 C2] rfl rfl (fun j u hu=>by rw[Addr.add_lit,Nat.zero_add];exact zE _ _ _ j u hu) (by simp[Value.oneCell']) (by unfold maxLen;omega) (by omega) (by simp;omega) ?_;intro v' w8 hown8 hg8 _ hat8;obtain⟨g8,c8,rfl,hrow8,hpi8,hki8,hbw8,hbl8⟩:=jQ (w0:=w) (K:=⟨⟨U1,C1,F1⟩,⟨U2,C2,F2⟩⟩) HRW7.out HPI7.out (by rw[<- HLL.out.1];exact HKK7.out.1) (by rw[<- HLL.out.2];exact HKK7.out.2) ⟨HF1.out.2.2,HF1.out.2.1⟩ (by have h:=hown8;simp only[Pr.cells,It.val,<- HLL.out.1,<- HLL.out.2];exact h) hg8 hat8 (HBW.out.on HB7.out) (by rw[HBS.out];exact Nat.le_refl _) hbl7;have HRW8:=hid hrow8;have HPI8:=hid hpi8;have HII8:=hid (And.intro (hki8 _ _ _ _ HI7.out.1) (hki8 _ _ _ _ HI7.out.2));have HBW8:=hid hbw8;have HBL8:=hid hbl8;have HR8:Hid (r=(allP (⟨⟨U1,C1,F1⟩,⟨U2,C2,F2⟩⟩::S2)&&(xf.drp (q+1)).kidsSame (yf.drp (q+1)))):=hid (by
         rw[HF.out];simp only[allP,List.all_cons];cases F1.same F2 <;> cases S2.all (fun x=>x.a.f.same x.b.f) <;> simp)
        have HM8:Hid (m2+1=(⟨⟨U1,C1,F1⟩,⟨U2,C2,F2⟩⟩::S2:List Pr).length):=hid (by rw[HM2.out];rfl);have HMS8:Hid (msP (⟨⟨U1,C1,F1⟩,⟨U2,C2,F2⟩⟩::S2)+(xf.drp (q+1)).size<=msP S+xf.size):=hid (by have:=HMQ.out;simp only[msP];omega);clear hown8 hg8 hat8 hrow8 hpi8 hki8 hbw8 hbl8;go_wp2_with fail
        go_roundw
        case rel=>exact⟨q+1,_,_,c8,m2+1,HLT.out,by go_num,rfl,HM8,HRW8,HPI8,HII8,HR8,HMS8,HBW8,HBL8⟩
        case measure=>have:=HLT.out;simp[intOf];omega
      ·have d2:decide ((0:Int)<(L1:Int))=true:=by simp;omega
       have d3:decide (0<L1)=true:=by simp;omega
       go_wp2_with (at_builtin;refine jB ?_)
       unfold jj;refine wpList_append_own_at _ rfl _ _ 153 rfl base 152 i0 (.agg #[.slice none 0 0,.slice none 0 0]) 2 48 Tryz.underlying153 hi0 hz0 hz1 hz2 rfl (by decide) (.slice A2 m2 c2) m2 _ rfl (HRW7.out.alloc _) ⟨w7.heap.size,0,none⟩ 1 1 [.slice U1 L1 C1,.slice U2 L2 C2] rfl rfl (fun j u hu=>by rw[Addr.add_lit,Nat.zero_add];exact zE _ _ _ j u hu) (by simp[Value.oneCell']) (by unfold maxLen;omega) (by omega) (by simp;omega) ?_;intro v' w8 hown8 hg8 _ hat8;obtain⟨g8,c8,rfl,hrow8,hpi8,hki8,hbw8,hbl8⟩:=jQ (w0:=w) (K:=⟨⟨U1,C1,F1⟩,⟨U2,C2,F2⟩⟩) HRW7.out HPI7.out (by rw[<- HLL.out.1];exact HKK7.out.1) (by rw[<- HLL.out.2];exact HKK7.out.2) ⟨HF1.out.2.2,HF1.out.2.1⟩ (by have h:=hown8;simp only[Pr.cells,It.val,<- HLL.out.1,<- HLL.out.2];exact h) hg8 hat8 (HBW.out.on HB7.out) (by rw[HBS.out];exact Nat.le_refl _) hbl7;have HRW8:=hid hrow8;have HPI8:=hid hpi8;have HII8:=hid (And.intro (hki8 _ _ _ _ HI7.out.1) (hki8 _ _ _ _ HI7.out.2));have HBW8:=hid hbw8;have HBL8:=hid hbl8;have HR8:Hid (r=(allP (⟨⟨U1,C1,F1⟩,⟨U2,C2,F2⟩⟩::S2)&&(xf.drp (q+1)).kidsSame (yf.drp (q+1)))):=hid (by
        rw[HF.out];simp only[allP,List.all_cons];cases F1.same F2 <;> cases S2.all (fun x=>x.a.f.same x.b.f) <;> simp)
       have HM8:Hid (m2+1=(⟨⟨U1,C1,F1⟩,⟨U2,C2,F2⟩⟩::S2:List Pr).length):=hid (by rw[HM2.out];rfl);have HMS8:Hid (msP (⟨⟨U1,C1,F1⟩,⟨U2,C2,F2⟩⟩::S2)+(xf.drp (q+1)).size<=msP S+xf.size):=hid (by have:=HMQ.out;simp only[msP];omega);clear hown8 hg8 hat8 hrow8 hpi8 hki8 hbw8 hbl8;go_wp2_with fail
       go_roundw
       case rel=>exact⟨q+1,_,_,c8,m2+1,HLT.out,by go_num,rfl,HM8,HRW8,HPI8,HII8,HR8,HMS8,HBW8,HBL8⟩
       case measure=>have:=HLT.out;simp[intOf];omega
     ·obtain rfl:q=xl:=by omega
      have HRE:Hid (r=allP S2):=hid (by rw[HRR.out,Tr.drp_end xf q (by rw[<- HXL.out];exact Nat.le_refl _),Tr.drp_end yf q (by rw[<- HYL.out];exact Nat.le_refl _)];simp[Tr.kidsSame]);have HMS2:Hid (msP S2<=1000001):=hid (by have:=HMM2.out;have:=HMB.out;omega);go_wp2_with fail
      go_roundg (msP S2)
      case rel=>exact⟨S2,A2,c2,m2,rfl,HM2,hid rfl,HMS2,HR2,HP2,HRE,HBW,HBLX⟩
      case measure=>
       rw[HGK.out];have:=HMM2.out;simp only[msP];omega
set_option maxHeartbeats 4000000
theorem jx{w W:World}{sh:Sh}(hs:sh ≠ .arms){k:Int}{s:List UInt8}{n:Int}{p:Pl}{A:Option Addr}{c:Nat}{B:Option Addr}{bc:Nat}{kids arms:Tr}
  (hk:KidsTr w (OldT w) sh A kids.len c kids) (ha:(sh=.ex/\KidsTr w (OldT w) .arms B arms.len bc arms)∨((sh=.pat∨sh=.ty)/\arms.len=0)) {t:TypeId} {g:Nat} (hb:Bel w W) (hg:W.heap[g]?=some (.cells (nodV sh k s n p A kids.len c B arms.len bc).toArray t (0,0))) :
  KidsTr W (OldT W) sh (some ⟨g,0,none⟩) 1 1 (.nod k s n p kids arms .nil):=by
 refine⟨rfl,Nat.le_refl _,fun _=>⟨g,0,rfl,(Array.getElem?_eq_some_iff.1 hg).1,?_⟩⟩;refine ((Tells.one hs hk ha (k:=k) (s:=s) (n:=n) (p:=p)).2.2 W g 0 (fun j u hu=>?_) (fun j hj=>hb.block j hj)).wide (fun j hj=>Nat.lt_of_lt_of_le hj hb.size) _ _ _ _;unfold World.cell?
 simp only[hg];simpa using hu
theorem zV(k:Int)(s:List UInt8)(n:Int)(p:Pl)(A:Option Addr)(c:Nat)(B:Option Addr)(bc:Nat)(kids arms:Tr)(k2:Int)(s2:List UInt8)(n2:Int)(p2:Pl)(A2:Option Addr)(c2:Nat)(B2:Option Addr)(bc2:Nat)(kids2 arms2:Tr)(w:World)
  (hk:KidsTr w (OldT w) .ex A kids.len c kids) (ha:KidsTr w (OldT w) .arms B arms.len bc arms) (hk2:KidsTr w (OldT w) .ex A2 kids2.len c2 kids2) (ha2:KidsTr w (OldT w) .arms B2 arms2.len bc2 arms2) (hsz:kids.size+arms.size<=900000) (hsz2:kids2.size+arms2.size<=900000) :
  Calls Tryz.prog 15 #[.agg #[.int .u8 k,.string ⟨s.toArray⟩,n,p.a,p.l,p.c,.slice A kids.len c,.slice B arms.len bc],.agg #[.int .u8 k2,.string ⟨s2.toArray⟩,n2,p2.a,p2.l,p2.c,.slice A2 kids2.len c2,.slice B2 arms2.len bc2]] w (qz (Tr.same (.nod k s n p kids arms .nil) (.nod k2 s2 n2 p2 kids2 arms2 .nil)) w):=by
 have HS:Hid (∀ (g g2:Nat) (t t2:TypeId) (W:World),Bel w W->W.heap[g]?=some (.cells #[.int .u8 k,.string ⟨s.toArray⟩,n,p.a,p.l,p.c,.slice A kids.len c,.slice B arms.len bc] t (0,0))->W.heap[g2]?=some (.cells #[.int .u8 k2,.string ⟨s2.toArray⟩,n2,p2.a,p2.l,p2.c,.slice A2 kids2.len c2,.slice B2 arms2.len bc2] t2 (0,0)) →
   Calls Tryz.prog 43 #[.slice (some ⟨g,0,none⟩) 1 1,.slice (some ⟨g2,0,none⟩) 1 1,.func (.func 34) #[] #[],.func (.func 44) #[] #[]] W (qz (Tr.same (.nod k s n p kids arms .nil) (.nod k2 s2 n2 p2 kids2 arms2 .nil)) W)):=hid fun g g2 t t2 W hW h1 h2=>by
  have e1:=jx (sh:= .ex) (by intro e;cases e) hk (.inl ⟨rfl,ha⟩) hW h1;have e2:=jx (sh:= .ex) (by intro e;cases e) hk2 (.inl ⟨rfl,ha2⟩) hW h2;exact qd1 _ 1 1 _ 1 1 _ _ W e1 e2 (by simp only[Tr.size];omega) (by simp only[Tr.size];omega)
 obtain⟨r,hr⟩:∃ r,r=Tr.same (.nod k s n p kids arms .nil) (.nod k2 s2 n2 p2 kids2 arms2 .nil):=⟨_,rfl⟩
 rw[<- hr]at HS ⊢;obtain⟨l1,hl1⟩:∃ l,l=kids.len:=⟨_,rfl⟩
 obtain⟨l2,hl2⟩:∃ l,l=kids2.len:=⟨_,rfl⟩
 obtain⟨l3,hl3⟩:∃ l,l=arms.len:=⟨_,rfl⟩
 obtain⟨l4,hl4⟩:∃ l,l=arms2.len:=⟨_,rfl⟩
 obtain⟨S,hS⟩:∃ S:ByteArray,S=⟨s.toArray⟩:=⟨_,rfl⟩
 obtain⟨S2,hS2⟩:∃ S:ByteArray,S=⟨s2.toArray⟩:=⟨_,rfl⟩
 rw[<- hl1,<- hl2,<- hl3,<- hl4,<- hS,<- hS2]at HS;rw[<- hl1,<- hl2,<- hl3,<- hl4,<- hS,<- hS2];clear hk ha hk2 ha2 hsz hsz2 hr hl1 hl2 hl3 hl4 hS hS2;have q4:=blk4 w (.cells #[.int .u8 k,S,n,p.a,p.l,p.c,.slice A l1 c,.slice B l3 bc] 43) (.cells #[.int .u8 k2,S2,n2,p2.a,p2.l,p2.c,.slice A2 l2 c2,.slice B2 l4 bc2] 43) (.cells #[.int .u8 k,S,n,p.a,p.l,p.c,.slice A l1 c,.slice B l3 bc] 43) (.cells #[.int .u8 k2,S2,n2,p2.a,p2.l,p2.c,.slice A2 l2 c2,.slice B2 l4 bc2] 43);have hb4:=((((Bel.refl w).alloc (.cells #[.int .u8 k,S,n,p.a,p.l,p.c,.slice A l1 c,.slice B l3 bc] 43)).alloc (.cells #[.int .u8 k2,S2,n2,p2.a,p2.l,p2.c,.slice A2 l2 c2,.slice B2 l4 bc2] 43)).alloc (.cells #[.int .u8 k,S,n,p.a,p.l,p.c,.slice A l1 c,.slice B l3 bc] 43)).alloc (.cells #[.int .u8 k2,S2,n2,p2.a,p2.l,p2.c,.slice A2 l2 c2,.slice B2 l4 bc2] 43);have HC:=hid (HS.out (w.heap.size+2) (w.heap.size+3) _ _ _ hb4 q4.2.2.1 q4.2.2.2);have HB4:=hid hb4;clear q4 hb4 HS;go_enter Tryz.func15,Tryz.ntmps15
 go_wp2_with fail
 refine HC.out.mono ?_;rintro e w5 ⟨rfl,hb5⟩;have HB5:=hid (HB4.out.on hb5);clear hb5;go_wp2_with fail
 go_ret
 exact⟨rfl,HB5.out⟩
end Go.Proofs.YtfpoelklhekfaaaGreatDoor.Mu
namespace Go.Proofs.YtfpoelklhekfaaaGreatDoor.Mu
open Go Go.RowKit Go.Shelf
set_option linter.unusedVariables false
structure Fd where
 m:Int
 k:Int
 s:List UInt8
 n:Int
 p:Pl
 kids:Tr
structure Cd where
 nm:List UInt8
 p:Pl
 fs:List Fd
structure Dc where
 kd:Int
 nm:List UInt8
 p:Pl
 ps:List (List UInt8)
 cs:List Cd
 rc:Bool
 k:Int
 s:List UInt8
 n:Int
 ep:Pl
 kids:Tr
 arms:Tr
def Fd.tr(x:Fd):Tr:= .nod x.k x.s x.n x.p x.kids .nil .nil
def Dc.tr(x:Dc):Tr:= .nod x.k x.s x.n x.ep x.kids x.arms .nil
def RowOf{α:Type}(sz:Nat)(At:World->(Nat->Prop)->Nat->Nat->α->Prop)(w:World)(Ok:Nat->Prop)(A:Option Addr)(n c:Nat)(xs:List α):Prop:=
 n=xs.length/\n<=c/\(0<n->∃ b o,A=some ⟨b,o,none⟩/\Ok b/\∀ (i:Nat) (x:α),xs[i]?=some x->At w Ok b (o+i*sz) x)
def qbH{α:Type}(At:World->(Nat->Prop)->Nat->Nat->α->Prop):Prop:=∀ (w w':World) (Ok Ok':Nat->Prop) (b o:Nat) (x:α),(∀ j,Ok j->w'.heap[j]?=w.heap[j]?)->(∀ j,Ok j->Ok' j)->Ok b->At w Ok b o x->At w' Ok' b o x
theorem RowOf.keep{α:Type}{sz:Nat}{At:World->(Nat->Prop)->Nat->Nat->α->Prop}(hA:qbH At){w w':World}{Ok Ok':Nat->Prop}{A:Option Addr}{n c:Nat}{xs:List α}(h:RowOf sz At w Ok A n c xs)(hk:∀ j,Ok j->w'.heap[j]?=w.heap[j]?)(hw:∀ j,Ok j->Ok' j):RowOf sz At w' Ok' A n c xs:=
 ⟨h.1,h.2.1,fun h0=>by
  obtain⟨b,o,e,hb,hx⟩:=h.2.2 h0;exact⟨b,o,e,hw b hb,fun i x hi=>hA w w' Ok Ok' b _ x hk hw hb (hx i x hi)⟩⟩
theorem RowOf.bel{α:Type}{sz:Nat}{At:World->(Nat->Prop)->Nat->Nat->α->Prop}(hA:qbH At){w w':World}{A:Option Addr}{n c:Nat}{xs:List α}(h:RowOf sz At w (OldT w) A n c xs)(hb:Bel w w'):RowOf sz At w' (OldT w') A n c xs:=
 h.keep hA (fun j hj=>hb.block j hj) (fun j hj=>Nat.lt_of_lt_of_le hj hb.size)
def FdAt(w:World)(Ok:Nat->Prop)(b o:Nat)(x:Fd):Prop:=w.cell? ⟨b,o,none⟩=some (.int .u8 x.m)/\TrAt w Ok x.tr .ty b (o+1)
def CdAt(w:World)(Ok:Nat->Prop)(b o:Nat)(x:Cd):Prop:=
 w.cell? ⟨b,o,none⟩=some (.string ⟨x.nm.toArray⟩)/\w.cell? ⟨b,o+1,none⟩=some (.int .i64 x.p.a)/\w.cell? ⟨b,o+2,none⟩=some (.int .i64 x.p.l)/\w.cell? ⟨b,o+3,none⟩=some (.int .i64 x.p.c) ∧
  ∃ A c,w.cell? ⟨b,o+4,none⟩=some (.slice A x.fs.length c)/\RowOf 8 FdAt w Ok A x.fs.length c x.fs
def SAt(w:World)(Ok:Nat->Prop)(b o:Nat)(x:List UInt8):Prop:=w.cell? ⟨b,o,none⟩=some (.string ⟨x.toArray⟩)
def DcAt(w:World)(Ok:Nat->Prop)(b o:Nat)(x:Dc):Prop:=
 w.cell? ⟨b,o,none⟩=some (.int .u8 x.kd)/\w.cell? ⟨b,o+1,none⟩=some (.string ⟨x.nm.toArray⟩)/\w.cell? ⟨b,o+2,none⟩=some (.int .i64 x.p.a)/\w.cell? ⟨b,o+3,none⟩=some (.int .i64 x.p.l)/\w.cell? ⟨b,o+4,none⟩=some (.int .i64 x.p.c) ∧
  (∃ A c,w.cell? ⟨b,o+5,none⟩=some (.slice A x.ps.length c)/\RowOf 1 SAt w Ok A x.ps.length c x.ps)/\(∃ A c,w.cell? ⟨b,o+6,none⟩=some (.slice A x.cs.length c)/\RowOf 5 CdAt w Ok A x.cs.length c x.cs) ∧
  w.cell? ⟨b,o+7,none⟩=some (.bool x.rc)/\TrAt w Ok x.tr .ex b (o+8)
theorem jK:qbH FdAt:=fun w w' Ok Ok' b o x hk hw hb ⟨h1,h2⟩=>
 ⟨(World.cell?_of_block (a:=⟨b,o,none⟩) (hk b hb)).trans h1,(TrAt.keep hk _ _ _ _ hb h2).wide hw _ _ _ _⟩
theorem jz:qbH SAt:=fun w w' Ok Ok' b o x hk hw hb h=>(World.cell?_of_block (a:=⟨b,o,none⟩) (hk b hb)).trans h
theorem zp:qbH CdAt:=fun w w' Ok Ok' b o x hk hw hb ⟨h1,h2,h3,h4,A,c,h5,h6⟩=>by
 have hc:∀ o',w'.cell? ⟨b,o',none⟩=w.cell? ⟨b,o',none⟩:=fun o'=>World.cell?_of_block (a:=⟨b,o',none⟩) (hk b hb);exact⟨(hc _).trans h1,(hc _).trans h2,(hc _).trans h3,(hc _).trans h4,A,c,(hc _).trans h5,h6.keep jK hk hw⟩
theorem zD:qbH DcAt:=fun w w' Ok Ok' b o x hk hw hb ⟨h1,h2,h3,h4,h5,⟨A,c,h6,h7⟩,⟨B,d,h8,h9⟩,h10,h11⟩=>by
 have hc:∀ o',w'.cell? ⟨b,o',none⟩=w.cell? ⟨b,o',none⟩:=fun o'=>World.cell?_of_block (a:=⟨b,o',none⟩) (hk b hb);exact⟨(hc _).trans h1,(hc _).trans h2,(hc _).trans h3,(hc _).trans h4,(hc _).trans h5,⟨A,c,(hc _).trans h6,h7.keep jz hk hw⟩,⟨B,d,(hc _).trans h8,h9.keep zp hk hw⟩,(hc _).trans h10,(TrAt.keep hk _ _ _ _ hb h11).wide hw _ _ _ _⟩
theorem FdAt.cells{w:World}{Ok:Nat->Prop}{b o:Nat}{x:Fd}(h:FdAt w Ok b o x):∃ A c,KidsTr w Ok .ty A x.kids.len c x.kids/\w.cell? ⟨b,o,none⟩=some (.int .u8 x.m)/\w.cell? ⟨b,o+1,none⟩=some (.int .u8 x.k)/\w.cell? ⟨b,o+2,none⟩=some (.string ⟨x.s.toArray⟩)/\w.cell? ⟨b,o+3,none⟩=some (.int .u8 x.n)/\w.cell? ⟨b,o+4,none⟩=some (.int .i64 x.p.a)/\w.cell? ⟨b,o+5,none⟩=some (.int .i64 x.p.l)/\w.cell? ⟨b,o+6,none⟩=some (.int .i64 x.p.c)/\w.cell? ⟨b,o+7,none⟩=some (.slice A x.kids.len c):=by
 obtain⟨A,c,B,bc,hc,hk,_,_⟩:=TrAt.parts h.2;exact⟨A,c,hk,h.1,hc 0 _ rfl,hc 1 _ rfl,hc 2 _ rfl,hc 3 _ rfl,hc 4 _ rfl,hc 5 _ rfl,hc 6 _ rfl⟩
theorem DcAt.cells{w:World}{Ok:Nat->Prop}{b o:Nat}{x:Dc}(h:DcAt w Ok b o x):∃ PA pc CA cc A c B bc,RowOf 1 SAt w Ok PA x.ps.length pc x.ps/\RowOf 5 CdAt w Ok CA x.cs.length cc x.cs/\KidsTr w Ok .ex A x.kids.len c x.kids/\KidsTr w Ok .arms B x.arms.len bc x.arms ∧
  w.cell? ⟨b,o,none⟩=some (.int .u8 x.kd)/\w.cell? ⟨b,o+1,none⟩=some (.string ⟨x.nm.toArray⟩)/\w.cell? ⟨b,o+2,none⟩=some (.int .i64 x.p.a)/\w.cell? ⟨b,o+3,none⟩=some (.int .i64 x.p.l)/\w.cell? ⟨b,o+4,none⟩=some (.int .i64 x.p.c)/\w.cell? ⟨b,o+5,none⟩=some (.slice PA x.ps.length pc)/\w.cell? ⟨b,o+6,none⟩=some (.slice CA x.cs.length cc)/\w.cell? ⟨b,o+7,none⟩=some (.bool x.rc) ∧
  w.cell? ⟨b,o+8,none⟩=some (.int .u8 x.k)/\w.cell? ⟨b,o+9,none⟩=some (.string ⟨x.s.toArray⟩)/\w.cell? ⟨b,o+10,none⟩=some (.int .i64 x.n)/\w.cell? ⟨b,o+11,none⟩=some (.int .i64 x.ep.a)/\w.cell? ⟨b,o+12,none⟩=some (.int .i64 x.ep.l)/\w.cell? ⟨b,o+13,none⟩=some (.int .i64 x.ep.c)/\w.cell? ⟨b,o+14,none⟩=some (.slice A x.kids.len c)/\w.cell? ⟨b,o+15,none⟩=some (.slice B x.arms.len bc):=by
 obtain⟨h1,h2,h3,h4,h5,⟨PA,pc,h6,h7⟩,⟨CA,cc,h8,h9⟩,h10,h11⟩:=h;obtain⟨A,c,B,bc,hc,hk,ha,_⟩:=TrAt.parts h11;rcases ha with ⟨_,ha⟩ | ⟨e | e,_⟩
 ·exact⟨PA,pc,CA,cc,A,c,B,bc,h7,h9,hk,ha,h1,h2,h3,h4,h5,h6,h8,h10,hc 0 _ rfl,hc 1 _ rfl,hc 2 _ rfl,hc 3 _ rfl,hc 4 _ rfl,hc 5 _ rfl,hc 6 _ rfl,hc 7 _ rfl⟩
 ·cases e
 ·cases e
def lsame{α:Type}(e:α->α->Bool):List α->List α->Bool
 | [],[]=>true
 | x::xs,y::ys=>e x y&&lsame e xs ys
 | _,_=>false
def Fd.same(x y:Fd):Bool:=decide (x.m=y.m)&&x.tr.same y.tr
def Cd.same(x y:Cd):Bool:=decide (x.nm=y.nm)&&lsame Fd.same x.fs y.fs
def Dc.same(x y:Dc):Bool:=decide (x.kd=y.kd)&&decide (x.nm=y.nm)&&decide (x.ps=y.ps)&&lsame Cd.same x.cs y.cs&&decide (x.rc=y.rc)&&x.tr.same y.tr
def Fd.good(x:Fd):Prop:=x.kids.size<=900000
def Cd.good(x:Cd):Prop:=x.fs.length<=1000000/\∀ f∈x.fs,f.good
def Dc.good(x:Dc):Prop:=x.cs.length<=1000000/\x.ps.length<=1100000/\x.kids.size+x.arms.size<=900000/\∀ c∈x.cs,c.good
end Go.Proofs.YtfpoelklhekfaaaGreatDoor.Mu
namespace Go.Proofs.YtfpoelklhekfaaaGreatDoor.Mu
open Go Go.RowKit Go.Shelf
attribute [local go_sem] Oper.semAt_some
set_option linter.unusedVariables false
set_option maxRecDepth 100000
theorem qgK:(Tryz.prog.info? 59).map (fun i=>i.size)=some 16:=by kernel_rfl
theorem qeg(w:World)(g:Nat)(hg:w.heap.size=g)(v0 v1 v2 v3 v4 v5 v6 v7 v8 v9 v10 v11 v12 v13 v14 v15:Value)(h:(#[v0,v1,v2,v3,v4,v5,v6,v7,v8,v9,v10,v11,v12,v13,v14,v15]:Array Value).all (·.oneCell')=true) :
  ((Sem.run Tryz.prog (store ⟨g,0,none⟩ v0) (w.alloc (.cells #[.int .u8 0,.string ⟨#[]⟩,(0:Int),(0:Int),(0:Int),.slice none 0 0,.slice none 0 0,.bool false,.int .u8 0,.string ⟨#[]⟩,(0:Int),(0:Int),(0:Int),(0:Int),.slice none 0 0,.slice none 0 0] 59))).andThen fun _ w1=>(Sem.run Tryz.prog (store ⟨g,1,none⟩ v1) w1).andThen fun _ w2=>(Sem.run Tryz.prog (store ⟨g,2,none⟩ v2) w2).andThen fun _ w3=>(Sem.run Tryz.prog (store ⟨g,3,none⟩ v3) w3).andThen fun _ w4=>(Sem.run Tryz.prog (store ⟨g,4,none⟩ v4) w4).andThen fun _ w5=>(Sem.run Tryz.prog (store ⟨g,5,none⟩ v5) w5).andThen fun _ w6=>(Sem.run Tryz.prog (store ⟨g,6,none⟩ v6) w6).andThen fun _ w7=>(Sem.run Tryz.prog (store ⟨g,7,none⟩ v7) w7).andThen fun _ w8=>(Sem.run Tryz.prog (store ⟨g,8,none⟩ v8) w8).andThen fun _ w9=>(Sem.run Tryz.prog (store ⟨g,9,none⟩ v9) w9).andThen fun _ w10=>(Sem.run Tryz.prog (store ⟨g,10,none⟩ v10) w10).andThen fun _ w11=>(Sem.run Tryz.prog (store ⟨g,11,none⟩ v11) w11).andThen fun _ w12=>(Sem.run Tryz.prog (store ⟨g,12,none⟩ v12) w12).andThen fun _ w13=>(Sem.run Tryz.prog (store ⟨g,13,none⟩ v13) w13).andThen fun _ w14=>(Sem.run Tryz.prog (store ⟨g,14,none⟩ v14) w14).andThen fun _ w15=>Sem.run Tryz.prog (store ⟨g,15,none⟩ v15) w15)=.ok () (w.alloc (.cells #[v0,v1,v2,v3,v4,v5,v6,v7,v8,v9,v10,v11,v12,v13,v14,v15] 59)):=by
 subst hg;have:=run_storeCells_new (P:=Tryz.prog) w 59 #[.int .u8 0,.string ⟨#[]⟩,(0:Int),(0:Int),(0:Int),.slice none 0 0,.slice none 0 0,.bool false,.int .u8 0,.string ⟨#[]⟩,(0:Int),(0:Int),(0:Int),(0:Int),.slice none 0 0,.slice none 0 0] #[v0,v1,v2,v3,v4,v5,v6,v7,v8,v9,v10,v11,v12,v13,v14,v15] qgK rfl h;simpa [go_sem,Sem.run_bind] using this
theorem qbP{w:World}{g:Nat}{t:TypeId}{x0 x1 x2 x3 x4 x5 x6 x7 x8 x9 x10 x11 x12 x13 x14 x15:Value}(h:w.heap[g]?=some (.cells #[x0,x1,x2,x3,x4,x5,x6,x7,x8,x9,x10,x11,x12,x13,x14,x15] t (0,0))) :
  w.cell? ⟨g,6,none⟩=some x6/\w.cell? ⟨g,7,none⟩=some x7/\w.cell? ⟨g,8,none⟩=some x8/\w.cell? ⟨g,9,none⟩=some x9/\w.cell? ⟨g,10,none⟩=some x10/\w.cell? ⟨g,11,none⟩=some x11/\w.cell? ⟨g,12,none⟩=some x12/\w.cell? ⟨g,13,none⟩=some x13/\w.cell? ⟨g,14,none⟩=some x14/\w.cell? ⟨g,15,none⟩=some x15:=by
 simp[World.cell?,h]
end Go.Proofs.YtfpoelklhekfaaaGreatDoor.Mu
namespace Go.Proofs.YtfpoelklhekfaaaGreatDoor.Mu
open Go Go.RowKit Go.Shelf
set_option linter.unusedVariables false
set_option maxRecDepth 100000
def zDc:Value:= .agg #[.int .u8 0,.string ⟨#[]⟩,.int .i64 0,.int .i64 0,.int .i64 0,.slice none 0 0,.slice none 0 0,.bool false,.int .u8 0,.string ⟨#[]⟩,.int .i64 0,.int .i64 0,.int .i64 0,.int .i64 0,.slice none 0 0,.slice none 0 0]
theorem qfQ:(Tryz.prog.info? 59).map (fun i=>(i.zero,i.size,i.bytes))=some (some zDc,16,208):=by kernel_rfl
theorem DcAt.move{w w':World}{Ok Ok':Nat->Prop}{b o b' o':Nat}{x:Dc}(h:DcAt w Ok b o x)(hc:∀ j u,j<16->w.cell? ⟨b,o+j,none⟩=some u->w'.cell? ⟨b',o'+j,none⟩=some u)(hk:∀ j,Ok j->w'.heap[j]?=w.heap[j]?)(hw:∀ j,Ok j->Ok' j):DcAt w' Ok' b' o' x:=by
 obtain⟨h1,h2,h3,h4,h5,⟨A,c,h6,h7⟩,⟨B,d,h8,h9⟩,h10,h11⟩:=h;obtain⟨⟨g0,g1,g2,g3,g4,g5⟩,⟨A',cap,a1,a2,a3⟩,hx,_⟩:=h11;refine⟨hc 0 _ (by omega) h1,hc 1 _ (by omega) h2,hc 2 _ (by omega) h3,hc 3 _ (by omega) h4,hc 4 _ (by omega) h5,⟨A,c,hc 5 _ (by omega) h6,h7.keep jz hk hw⟩,⟨B,d,hc 6 _ (by omega) h8,h9.keep zp hk hw⟩,hc 7 _ (by omega) h10,⟨?_,⟨A',cap,hc 14 _ (by omega) a1,a2,fun h0=>?_⟩,?_,trivial⟩⟩
 ·exact⟨hc 8 _ (by omega) g0,hc 9 _ (by omega) g1,hc 10 _ (by omega) g2,hc 11 _ (by omega) g3,hc 12 _ (by omega) g4,hc 13 _ (by omega) g5⟩
 ·obtain⟨p,q,e,c1,c2⟩:=a3 h0
  exact⟨p,q,e,hw _ c1,(TrAt.keep hk _ _ _ _ c1 c2).wide hw _ _ _ _⟩
 ·rcases hx with ⟨e,B',cap',c1,c2,c3⟩ | ⟨e | e,_⟩
  ·refine .inl ⟨rfl,B',cap',hc 15 _ (by omega) c1,c2,fun h0=>?_⟩
   obtain⟨p,q,e,d1,d2⟩:=c3 h0;exact⟨p,q,e,hw _ d1,(TrAt.keep hk _ _ _ _ d1 d2).wide hw _ _ _ _⟩
  ·cases e
  ·cases e
def js(w:World)(b o k:Nat):List Value:=(List.range k).map fun j=>(w.cell? ⟨b,o+j,none⟩).getD undef
theorem jt(w:World)(b o k:Nat):(js w b o k).length=k:=by simp[js]
theorem QJ{w:World}{b o k j:Nat}{u:Value}(hj:j<k)(h:w.cell? ⟨b,o+j,none⟩=some u):(js w b o k)[j]?=some u:=by
 simp[js,List.getElem?_map,List.getElem?_range hj,h]
theorem DcAt.some{w:World}{Ok:Nat->Prop}{b o:Nat}{x:Dc}(h:DcAt w Ok b o x){j:Nat}(hj:j<16):∃ u,w.cell? ⟨b,o+j,none⟩=some u/\u.oneCell'=true:=by
 obtain⟨PA,pc,CA,cc,A',ca',B',cb',_,_,_,_,y0,y1,y2,y3,y4,y5,y6,y7,y8,y9,y10,y11,y12,y13,y14,y15⟩:=h.cells;have hj':j=0∨j=1∨j=2∨j=3∨j=4∨j=5∨j=6∨j=7∨j=8∨j=9∨j=10∨j=11∨j=12∨j=13∨j=14∨j=15:=by omega
 rcases hj' with rfl | rfl | rfl | rfl | rfl | rfl | rfl | rfl | rfl | rfl | rfl | rfl | rfl | rfl | rfl | rfl
 ·exact⟨_,y0,rfl⟩
 ·exact⟨_,y1,rfl⟩
 ·exact⟨_,y2,rfl⟩
 ·exact⟨_,y3,rfl⟩
 ·exact⟨_,y4,rfl⟩
 ·exact⟨_,y5,rfl⟩
 ·exact⟨_,y6,rfl⟩
 ·exact⟨_,y7,rfl⟩
 ·exact⟨_,y8,rfl⟩
 ·exact⟨_,y9,rfl⟩
 ·exact⟨_,y10,rfl⟩
 ·exact⟨_,y11,rfl⟩
 ·exact⟨_,y12,rfl⟩
 ·exact⟨_,y13,rfl⟩
 ·exact⟨_,y14,rfl⟩
 ·exact⟨_,y15,rfl⟩
def CopyOf(w:World)(Ok:Nat->Prop)(xs:List Dc)(flat:List Value):Prop:=
 flat.length=xs.length*16/\(∀ u∈flat,u.oneCell'=true)/\∀ (i:Nat) (x:Dc),xs[i]?=some x->∃ b o,Ok b/\DcAt w Ok b o x/\∀ j u,j<16->w.cell? ⟨b,o+j,none⟩=some u->flat[i*16+j]?=some u
theorem CopyOf.nil(w:World)(Ok:Nat->Prop):CopyOf w Ok [] []:=⟨rfl,(fun _ h=>by cases h),fun i x h=>by simp at h⟩
theorem CopyOf.app{w:World}{Ok:Nat->Prop}{xs ys:List Dc}{f g:List Value}(h:CopyOf w Ok xs f)(k:CopyOf w Ok ys g):CopyOf w Ok (xs++ys) (f++g):=by
 refine⟨by rw[List.length_append,List.length_append,h.1,k.1];omega,fun u hu=>(List.mem_append.1 hu).elim (h.2.1 u) (k.2.1 u),fun i x hi=>?_⟩;rcases Nat.lt_or_ge i xs.length with hl | hl
 ·rw[List.getElem?_append_left hl]at hi
  obtain⟨b,o,h1,h2,h3⟩:=h.2.2 i x hi;refine⟨b,o,h1,h2,fun j u hj hu=>?_⟩;rw[List.getElem?_append_left (by rw[h.1];omega)];exact h3 j u hj hu
 ·rw[List.getElem?_append_right hl]at hi
  obtain⟨b,o,h1,h2,h3⟩:=k.2.2 _ x hi;refine⟨b,o,h1,h2,fun j u hj hu=>?_⟩;rw[List.getElem?_append_right (by rw[h.1];omega),h.1,show i*16+j-xs.length*16=(i-xs.length)*16+j by omega];exact h3 j u hj hu
theorem CopyOf.bel{w w':World}{xs:List Dc}{f:List Value}(h:CopyOf w (OldT w) xs f)(hb:Bel w w'):CopyOf w' (OldT w') xs f:=by
 refine⟨h.1,h.2.1,fun i x hi=>?_⟩;obtain⟨b,o,h1,h2,h3⟩:=h.2.2 i x hi;refine⟨b,o,Nat.lt_of_lt_of_le h1 hb.size,zD _ _ _ _ _ _ _ (fun j hj=>hb.block j hj) (fun j hj=>Nat.lt_of_lt_of_le hj hb.size) h1 h2,fun j u hj hu=>h3 j u hj ?_⟩;rw[<- hu];exact (World.cell?_of_block (a:=⟨b,o+j,none⟩) (hb.block b h1)).symm
theorem RowOf.copy{w:World}{Ok:Nat->Prop}{b o n c:Nat}{xs:List Dc}(h:RowOf 16 DcAt w Ok (some ⟨b,o,none⟩) n c xs)(h0:0<n):CopyOf w Ok xs (js w b o (n*16))/\∀ j u,(js w b o (n*16))[j]?=some u->w.cell? ((⟨b,o,none⟩:Addr).add j)=some u:=by
 obtain⟨hn,_,h2⟩:=h;obtain⟨b',o',e,hb,hx⟩:=h2 h0;injection e with e
 injection e with e1 e2
 subst e1 e2;have hs:∀ j,j<n*16->∃ u,w.cell? ⟨b,o+j,none⟩=some u/\u.oneCell'=true:=fun j hj=>by
  have hi:j / 16<xs.length:=by omega
  obtain⟨u,h1,h2⟩:=(hx (j / 16) _ (List.getElem?_eq_getElem hi)).some (j:=j % 16) (by omega);refine⟨u,?_,h2⟩;rw[<- h1];congr 2
  omega
 refine⟨⟨by rw[jt,hn],fun u hu=>?_,fun i x hi=>⟨b,o+i*16,hb,hx i x hi,fun j u hj hu=>?_⟩⟩,fun j u hu=>?_⟩
 ·obtain⟨j,hj,rfl⟩:=List.mem_map.1 hu
  obtain⟨u,h1,h2⟩:=hs j (List.mem_range.1 hj);rw[h1];exact h2
 ·have hil:=(List.getElem?_eq_some_iff.1 hi).1
  refine QJ (by omega) ?_;rw[<- hu];congr 2
  omega
 ·have hj:j<n*16:=by
   have:=(List.getElem?_eq_some_iff.1 hu).1;rwa [jt]at this
  obtain⟨v,h1,_⟩:=hs j hj;rw[QJ hj h1]at hu;cases hu
  rw[Addr.add_lit];exact h1
theorem CopyOf.row{w:World}{xs:List Dc}{f:List Value}(h:CopyOf w (OldT w) xs f){base n c:Nat}{A:Option Addr}{e:TypeId}(ho:w.ownsRow base e 16 (.slice A n c) n f)(hn:n=xs.length):RowOf 16 DcAt w (OldT w) A n c xs:=by
 have hcap:n<=c:=by
  rcases ho.2 with ⟨h1,h2⟩ | ⟨g,cap,cur,h1,_,_,h4,_⟩
  ·injection h1 with _ h2 h3
   omega
  ·injection h1 with _ _ h3
   omega
 refine⟨hn,hcap,fun h0=>?_⟩;obtain⟨g,cap,hv,_,hg⟩:=ho.form h0;cases hv
 refine⟨g,0,rfl,hg,fun i x hi=>?_⟩;obtain⟨b,o,h1,h2,h3⟩:=h.2.2 i x hi;refine h2.move (fun j u hj hu=>?_) (fun _ _=>rfl) (fun _ hj=>hj);have:=ho.cells (g:=g) rfl (i*16+j) u (h3 j u hj hu);rw[Addr.add_lit]at this;rw[<- this];congr 2
 omega
section
variable {P : Program} {w : World}
theorem Qr(t ty e:TypeId)(i:TypeInfo)(ht:P.underlying t=some (.slice e))(hi:P.info? e=some i)
  (base size:Nat) (v:Value) (n:Nat) (xs:List Value) (hown:w.ownsRow base e size v n xs) (d:Nat):(Builtin.append_ #[t,t] ty #[v,.slice none 0 d]).run P w=.ok v w:=by
 rcases hown.2 with ⟨rfl,_⟩ | ⟨g,cap,cur,rfl,_,_,hnc,_⟩
 ·simp[Builtin.append_,run_underlying ht,sizeOf,typeInfo,hi,Builtin.lenOf,Builtin.firstCells]
 ·simp[Builtin.append_,run_underlying ht,sizeOf,typeInfo,hi,Builtin.lenOf,Builtin.firstCells,hnc,storeCells]
theorem zM{ops:Array Oper}{rest:List Oper}{o:Oper}{a:Act}{Q:Exit->Act->World->Prop}(hgd:o.guard=none)(s x:Operand)(t:TypeId)
  (ho:o.op=.call { callee:= .builtin .append,args:=#[s,x],argTypes:=#[t,t] })
  (w0:World) (hb:Bel w0 w) (base:Nat) (e:TypeId) (z:Value) (hzs:z.cells.size=16) (ht:P.underlying t=some (.slice e)) (hinfo:(P.info? e).map (fun i=>(i.zero,i.size,i.bytes))=some (some z,16,208))
  (A:Option Addr) (n c:Nat) (xs:List Dc) (f:List Value) (hs:a.eval s=.slice A n c) (hown:w.ownsRow base e 16 (.slice A n c) n f) (hcp:CopyOf w0 (OldT w0) xs f)
  (B:Option Addr) (m d:Nat) (ys:List Dc) (hx:a.eval x=.slice B m d) (hr:RowOf 16 DcAt w0 (OldT w0) B m d ys)
  (hmax:n+m<=10000000) (hbase:base<=w.heap.size) (N:Nat) (hN:n+m=N) (zs:List Dc) (hzz:xs++ys=zs)
  (h:∀ A' c' f' w',w'.ownsRow base e 16 (.slice A' N c') N f'->CopyOf w0 (OldT w0) zs f'->w.grownBy w' (Value.slice A n c).ownBlock->wpList P ops Q rest (a.put o.dst (.slice A' N c')) w'):wpList P ops Q (o::rest) a w:=by
 obtain⟨i,hi,hz0,hz1,hz2⟩:=info_parts hinfo;subst hN hzz;rcases Nat.eq_zero_or_pos m with h0 | h0
 ·subst h0
  obtain rfl:ys=[]:=List.eq_nil_of_length_eq_zero hr.1.symm;rcases B with _ | ad
  ·refine wpList_plain hgd fun K hK=>?_
   have hrun:=Qr (P:=P) t o.type e i ht hi base _ _ n _ hown d;have h':=h A c f w (by simpa using hown) (by simpa using hcp) (World.grownBy.refl _ _);unfold Oper.wp;simp only[execOp,ho,resolve,invoke,builtin,Sem.run_bind,Sem.run_pure,Result.andThen_ok,List.map_toArray,List.map_cons,List.map_nil,hs,hx,hrun];exact hK _ _ h'
  ·refine wpList_append_own w hgd s x t ho base e i z 16 208 ht hi hz0 hz1 hz2 hzs (by decide) _ n _ hs hown ad 0 d [] hx rfl (fun j u hu=>by simp at hu) (fun u hu=>by cases hu) (by unfold maxLen;omega) (by omega) hbase ?_
   intro v' w' hown' hg _;obtain⟨A',c',rfl⟩:=zf hown';exact h A' c' _ w' hown' (by simpa using hcp) hg
 ·obtain⟨b,off,e',hob,_⟩:=hr.2.2 h0
  subst e';obtain⟨k1,k2⟩:=hr.copy h0;refine wpList_append_own w hgd s x t ho base e i z 16 208 ht hi hz0 hz1 hz2 hzs (by decide) _ n _ hs hown ⟨b,off,none⟩ m d (js w0 b off (m*16)) hx (jt ..) (fun j u hu=>?_) k1.2.1 (by unfold maxLen;omega) (by omega) hbase ?_
  ·have h2:=k2 j u hu
   rw[Addr.add_lit]at h2 ⊢;exact (World.cell?_of_block (a:=⟨b,off+j,none⟩) (hb.block b hob)).trans h2
  ·intro v' w' hown' hg _
   obtain⟨A',c',rfl⟩:=zf hown';exact h A' c' _ w' hown' (hcp.app k1) hg
end
end Go.Proofs.YtfpoelklhekfaaaGreatDoor.Mu
namespace Go.Proofs.YtfpoelklhekfaaaGreatDoor.Mu
set_option maxHeartbeats 2000000
open Go Go.RowKit Go.Shelf
attribute [local go_sem] Oper.semAt_some
set_option linter.unusedVariables false
set_option maxRecDepth 100000
def tysL:List Fd->Tr
 | []=> .nil
 | x::xs=> .nod x.k x.s x.n x.p x.kids .nil (tysL xs)
theorem Jq:∀ xs ys:List Fd,tysL (xs++ys)=(tysL xs).app (tysL ys)
 | [],_=>rfl
 | x::xs,ys=>by simp only[List.cons_append,tysL,Tr.app,Jq xs ys]
theorem Jr:∀ xs:List Fd,(tysL xs).len=xs.length
 | []=>rfl
 | x::xs=>by simp only[tysL,Tr.len,Jr xs,List.length_cons]
def qy:List Cd->List Fd
 | []=>[]
 | c::cs=>c.fs++qy cs
theorem j0(cs:List Cd)(j:Nat)(c:Cd)(h:cs[j]?=some c):qy (cs.take (j+1))=qy (cs.take j)++c.fs:=by
 induction cs generalizing j with
 | nil=>cases h
 | cons x xs ih=>
  cases j with
  | zero=>simp only[List.getElem?_cons_zero,Option.some.injEq]at h;subst h;simp[qy]
  | succ j=>
   simp only[List.getElem?_cons_succ]at h;simp only[List.take_succ_cons,qy,ih j h,List.append_assoc]
theorem qa2(cs:List Cd)(j:Nat):(qy (cs.take j)).length<=(qy cs).length:=by
 induction cs generalizing j with
 | nil=>simp
 | cons x xs ih=>
  cases j with
  | zero=>simp[qy]
  | succ j=>have:=ih j;simp only[List.take_succ_cons,qy,List.length_append];omega
theorem Zq(kd:Int)(nm:List UInt8)(q:Pl)(PA:Option Addr)(pl pc:Nat)(CA:Option Addr)(cl cc:Nat)(rc:Bool)(k:Int)(s:List UInt8)(n:Int)(p:Pl)(A:Option Addr)(kl c:Nat)(B:Option Addr)(al bc:Nat)(cs:List Cd)(w:World)(hc:RowOf 5 CdAt w (OldT w) CA cl cc cs)(hcl:cl<=1000000)(hfl:(qy cs).length<=1000000) :
  Calls Tryz.prog 37 #[.agg #[.int .u8 kd,.string ⟨nm.toArray⟩,q.a,q.l,q.c,.slice PA pl pc,.slice CA cl cc,.bool rc,.int .u8 k,.string ⟨s.toArray⟩,n,p.a,p.l,p.c,.slice A kl c,.slice B al bc]] w (ji w (OldT w) .ty (tysL (qy cs))):=by
 have HC:=hid hc;have HFL:=hid hfl;have HCL:Hid (cl=cs.length):=hid hc.1;clear hc hfl;obtain⟨S,hS⟩:∃ S:ByteArray,S=⟨s.toArray⟩:=⟨_,rfl⟩
 obtain⟨NM,hNM⟩:∃ S:ByteArray,S=⟨nm.toArray⟩:=⟨_,rfl⟩
 rw[<- hS,<- hNM];clear hS hNM;obtain⟨i0,hi0,hz0,hz1,hz2⟩:=info_parts qgL;have hb1:Bel w (w.alloc (.cells #[.int .u8 kd,NM,q.a,q.l,q.c,.slice PA pl pc,.slice CA cl cc,.bool rc,.int .u8 k,S,n,p.a,p.l,p.c,.slice A kl c,.slice B al bc] 59)):=(Bel.refl w).alloc _;have hsz:(w.alloc (.cells #[.int .u8 kd,NM,q.a,q.l,q.c,.slice PA pl pc,.slice CA cl cc,.bool rc,.int .u8 k,S,n,p.a,p.l,p.c,.slice A kl c,.slice B al bc] 59)).heap.size=w.heap.size+1:=by simp
 have HB1:=hid hb1;have HSZ:=hid hsz;clear hb1 hsz;go_enter Tryz.func37,Tryz.ntmps37
 go_wp2_with fail
 obtain⟨bx,hbx⟩:∃ bx,bx=w.heap.size:=⟨_,rfl⟩
 have HBX:=hid hbx;clear hbx;go_loopw [3,11] (fun v i wr=>∃ (j m:Nat) (A3:Option Addr) (c3:Nat) (us:List Value),j<=cl/\v=.slice A3 m c3/\i=.int .i64 (j:Int)/\Hid (m=(qy (cs.take j)).length)/\Hid (wr.ownsRow (bx+1) 50 7 (.slice A3 m c3) m us)/\Hid (Tells w (OldT w) .ty (tysL (qy (cs.take j))) us)/\Hid (Bel w wr)/\Hid (w.heap.size+1<=wr.heap.size)) (fun _ i _=>cl-(intOf i).toNat)
 case atStart=>exact⟨0,0,none,0,[],Nat.zero_le _,rfl,rfl,hid (by simp[qy]),hid (World.ownsRow_nil _ _ _ _),hid (by rw[List.take_zero];exact Tells.nil),HB1,hid (by rw[HSZ.out];exact Nat.le_refl _)⟩
 case round=>
  obtain⟨j,m,A3,c3,us,hj,rfl,rfl,HM,HO,HT,HB,HSB⟩:=hrel;by_cases hlt:j<cl
  ·obtain⟨ub,uo,eB,hob,hfo⟩:=HC.out.2.2 (by omega)
   subst eB;obtain⟨x,hx⟩:∃ x,cs[j]?=some x:=⟨_,List.getElem?_eq_getElem (by rw[<- HCL.out];exact hlt)⟩
   obtain⟨y0,y1,y2,y3,A',ca',y4,hff⟩:=hfo j x hx;obtain⟨cn,cp,fs⟩:=x;have HX:=hid hx;obtain⟨G,hG⟩:∃ G,G=qy (cs.take j):=⟨_,rfl⟩
   have HG1:Hid (qy (cs.take (j+1))=G++fs):=hid (by rw[hG];exact j0 cs j _ hx);have HGL:Hid (G.length+fs.length<=1000000):=hid (by
    have h1:=HG1.out;have h2:=qa2 cs (j+1);rw[h1,List.length_append]at h2;have:=HFL.out;omega)
   rw[<- hG]at HM HT;simp only[]at y0 y1 y2 y3 y4 hff;obtain⟨fl,hfl⟩:∃ l,l=fs.length:=⟨_,rfl⟩
   have HFN:=hid hfl;rw[<- hfl]at y4 hff;obtain⟨CN,hCN⟩:∃ S:ByteArray,S=⟨cn.toArray⟩:=⟨_,rfl⟩
   rw[<- hCN]at y0;have HF:Hid (RowOf 8 FdAt w (OldT w) A' fl ca' fs):=hid hff;have hcw:=(Bel.cells HB.out).1;replace y0:=(hcw ub _ hob).trans y0
   replace y1:=(hcw ub _ hob).trans y1
   replace y2:=(hcw ub _ hob).trans y2
   replace y3:=(hcw ub _ hob).trans y3
   replace y4:=(hcw ub _ hob).trans y4
   have i1:(0:Int)<=(j:Int):=by omega
   have i2:(j:Int)<(cl:Int):=by omega
   have hob':ub<wr.heap.size:=Nat.lt_of_lt_of_le hob HB.out.size;have hf8:fl<=1000000:=by have:=HGL.out;omega
   have HLT:=hid hlt;clear hcw hfo hob hx hG hfl hCN hff;go_wp2_with fail
   clear y0 y1 y2 y3 y4;have hbw:Bel wr (wr.alloc (.cells #[.string CN,cp.a,cp.l,cp.c,.slice A' fl ca'] 56)):=(Bel.refl wr).alloc _;have HBW:=hid hbw;have HSW:Hid (wr.heap.size<=(wr.alloc (.cells #[.string CN,cp.a,cp.l,cp.c,.slice A' fl ca'] 56)).heap.size):=hid (by simp);clear hbw;go_loopw [3,18] (fun v i wi=>∃ (h m:Nat) (A3:Option Addr) (c3:Nat) (us:List Value),h<=fl/\v=.slice A3 m c3/\i=.int .i64 (h:Int)/\Hid (m=G.length+h)/\Hid (wi.ownsRow (bx+1) 50 7 (.slice A3 m c3) m us)/\Hid (Tells w (OldT w) .ty (tysL (G++fs.take h)) us)/\Hid (Bel w wi)/\Hid (w.heap.size+1<=wi.heap.size)) (fun _ i _=>fl-(intOf i).toNat)
   case atStart=>exact⟨0,m,A3,c3,us,Nat.zero_le _,rfl,rfl,HM,hid (HO.out.alloc _),hid (by rw[List.take_zero,List.append_nil];exact HT.out),hid (HB.out.on HBW.out),hid (by have:=HSW.out;have:=HSB.out;omega)⟩
   case round=>
    obtain⟨h,m,A3,c3,us,hh,rfl,rfl,HMI,HOI,HTI,HBI,HSI⟩:=hrel;by_cases hlt2:h<fl
    ·obtain⟨ub2,uo2,eB2,hob2,hfo2⟩:=HF.out.2.2 (by omega)
     subst eB2;obtain⟨y,hy⟩:∃ y,fs[h]?=some y:=⟨_,List.getElem?_eq_getElem (by rw[<- HFN.out];exact hlt2)⟩
     obtain⟨A4,c4,hkk,z0,z1,z2,z3,z4,z5,z6,z7⟩:=(hfo2 h y hy).cells;obtain⟨fm,fk,fs',fn,fp,fkids⟩:=y;simp only[]at hkk z0 z1 z2 z3 z4 z5 z6 z7;have HT3:Hid (Tells w (OldT w) .ty (tysL (G++fs.take (h+1))) (us++nodV .ty fk fs' fn fp A4 fkids.len c4 none 0 0)):=hid (by
      rw[List.take_add_one,hy,Option.toList_some,<- List.append_assoc,Jq];exact HTI.out.app (Tells.one (by intro e;cases e) hkk (.inr ⟨.inr rfl,rfl⟩)))
     have hcw:=(Bel.cells HBI.out).1;replace z0:=(hcw ub2 _ hob2).trans z0
     replace z1:=(hcw ub2 _ hob2).trans z1
     replace z2:=(hcw ub2 _ hob2).trans z2
     replace z3:=(hcw ub2 _ hob2).trans z3
     replace z4:=(hcw ub2 _ hob2).trans z4
     replace z5:=(hcw ub2 _ hob2).trans z5
     replace z6:=(hcw ub2 _ hob2).trans z6
     replace z7:=(hcw ub2 _ hob2).trans z7
     have hob2':ub2<wr.heap.size:=Nat.lt_of_lt_of_le hob2 HBI.out.size;obtain⟨l3,hl3⟩:∃ l,l=fkids.len:=⟨_,rfl⟩
     rw[<- hl3]at z7 HT3;obtain⟨FJ,hFS⟩:∃ S:ByteArray,S=⟨fs'.toArray⟩:=⟨_,rfl⟩
     rw[<- hFS]at z2;have HT4:Hid (Tells w (OldT w) .ty (tysL (G++fs.take (h+1))) (us++[.int .u8 fk,.string FJ,.int .u8 fn,.int .i64 fp.a,.int .i64 fp.l,.int .i64 fp.c,.slice A4 l3 c4])):=hid (by rw[hFS];exact HT3.out);have j1:(0:Int)<=(h:Int):=by omega
     have j2:(h:Int)<(fl:Int):=by omega
     have hm9:m<=1000000:=by have:=HMI.out;have:=HGL.out;have:=HFN.out;omega
     have HLT2:=hid hlt2;clear hcw hob2 hfo2 hy hkk HT3 hl3 hFS HTI;go_wp2_with (at_builtin;refine jB ?_)
     unfold jj;refine wpList_append_own_at _ rfl _ _ 48 rfl (bx+1) 50 i0 _ 7 80 Tryz.underlying48 hi0 hz0 hz1 hz2 rfl (by decide) (.slice A3 m c3) m _ rfl ((HOI.out.alloc _).alloc _) ⟨wr.heap.size+1,0,none⟩ 1 1 [.int .u8 fk,FJ,.int .u8 fn,fp.a,fp.l,fp.c,.slice A4 l3 c4] rfl rfl (fun j u hu=>by
      rw[Addr.add_lit,Nat.zero_add];have h:=zE (wr.alloc (.cells #[.int .u8 fm,.int .u8 fk,FJ,.int .u8 fn,fp.a,fp.l,fp.c,.slice A4 l3 c4] 53)) _ 50 j u hu;rw[World.size_alloc]at h;exact h) (by simp[Value.oneCell']) (by unfold maxLen;omega) (by omega) (by simp;have:=HBX.out;have:=HBI.out.size;have:=HSI.out;omega) ?_
     intro v' w5 hown5 hg5 _ hat5;obtain⟨g5,c5,rfl⟩:=zB hown5;have hb5:Bel w w5:=Below.grown ((HBI.out.alloc _).alloc _) hg5 (by simp;have:=HBI.out.size;omega) (fun x hx=>by have h:=(HOI.out.lt x hx).1;have:=HBX.out;omega);have HB5:=hid hb5;have HSB5:Hid (w.heap.size+1<=w5.heap.size):=hid (by have h:=hg5.size;simp at h;have:=HSI.out;omega);have HO5:=hid hown5;have HM5:Hid (m+1=G.length+(h+1)):=hid (by have:=HMI.out;omega);clear hown5 hg5 hat5 hb5 z0 z1 z2 z3 z4 z5 z6 z7 HOI HBI;go_wp2_with fail
     go_roundw
     case rel=>exact⟨h+1,m+1,_,c5,_,HLT2.out,rfl,by go_num,HM5,HO5,HT4,HB5,HSB5⟩
     case measure=>have:=HLT2.out;simp[intOf];omega
    ·obtain rfl:h=fl:=by omega
     have HMO:Hid (m=(qy (cs.take (j+1))).length):=hid (by rw[HG1.out,List.length_append,HMI.out,HFN.out]);have HTO:Hid (Tells w (OldT w) .ty (tysL (qy (cs.take (j+1)))) us):=hid (by
      have h:=HTI.out;rw[HFN.out,List.take_length]at h;rw[HG1.out];exact h)
     go_wp2_with fail
     go_roundw
     case rel=>exact⟨j+1,m,A3,c3,us,HLT.out,rfl,by go_num,HMO,HOI,HTO,HBI,HSI⟩
     case measure=>have:=HLT.out;simp[intOf];omega
  ·obtain rfl:j=cl:=by omega
   go_wp2_with fail
   go_ret
   have hl:m=(tysL (qy cs)).len:=by rw[HM.out,HCL.out,List.take_length,Jr]
   have ht:=HT.out;rw[HCL.out,List.take_length]at ht;have ho:=HO.out;rw[hl]at ho ⊢;exact⟨A3,c3,rfl,HB.out,ht.row HB.out (fun _ h=>h) (by have:=HBX.out;omega) ho⟩
def QK(kd:Int)(e:Tr)(cs:List Cd):Nat:=if kd=2 then e.depth else if kd=1 then (tysL (qy cs)).depth else 0
def DepQ(r:Nat)(w:World):Ending->World->Prop:=fun e w'=>e=.returned (.int .i64 (r:Int))/\Bel w w'
theorem zK(kd:Int)(nm:List UInt8)(q:Pl)(PA:Option Addr)(pl pc:Nat)(CA:Option Addr)(cl cc:Nat)(rc:Bool)(k:Int)(s:List UInt8)(n:Int)(p:Pl)(A:Option Addr)(c:Nat)(B:Option Addr)(bc:Nat)(kids arms:Tr)(cs:List Cd)(w:World)(hk:KidsTr w (OldT w) .ex A kids.len c kids)(ha:KidsTr w (OldT w) .arms B arms.len bc arms)(hsz:kids.size+arms.size<=900000)(hc:RowOf 5 CdAt w (OldT w) CA cl cc cs)(hcl:cl<=1000000)(hfl:(tysL (qy cs)).size<=1000000) :
  Calls Tryz.prog 13 #[.agg #[.int .u8 kd,.string ⟨nm.toArray⟩,q.a,q.l,q.c,.slice PA pl pc,.slice CA cl cc,.bool rc,.int .u8 k,.string ⟨s.toArray⟩,n,p.a,p.l,p.c,.slice A kids.len c,.slice B arms.len bc]] w (DepQ (QK kd (.nod k s n p kids arms .nil) cs) w):=by
 have HX:Hid (∀ (g:Nat) (t:TypeId) (W:World),Bel w W->W.heap[g]?=some (.cells #[.int .u8 k,.string ⟨s.toArray⟩,n,p.a,p.l,p.c,.slice A kids.len c,.slice B arms.len bc] t (0,0)) →
   Calls Tryz.prog 33 #[.slice (some ⟨g,0,none⟩) 1 1,.func (.func 34) #[] #[],.func (.func 35) #[] #[]] W (DepQ (Tr.depth (.nod k s n p kids arms .nil)) W)):=hid fun g t W hW h1=>by
  have e1:=jx (sh:= .ex) (by intro e;cases e) hk (.inl ⟨rfl,ha⟩) hW h1;exact qbU _ 1 1 _ W e1 (by simp only[Tr.size];omega)
 have HF:Hid (∀ W,Bel w W->Calls Tryz.prog 37 #[.agg #[.int .u8 kd,.string ⟨nm.toArray⟩,q.a,q.l,q.c,.slice PA pl pc,.slice CA cl cc,.bool rc,.int .u8 k,.string ⟨s.toArray⟩,n,p.a,p.l,p.c,.slice A kids.len c,.slice B arms.len bc]] W (ji W (OldT W) .ty (tysL (qy cs)))):=hid fun W hW=>Zq kd nm q PA pl pc CA cl cc rc k s n p A kids.len c B arms.len bc cs W (hc.bel zp hW) hcl (by have:=(tysL (qy cs)).len_le;rw[Jr]at this;omega);have HT:Hid (∀ W A c,KidsTr W (OldT W) .ty A (tysL (qy cs)).len c (tysL (qy cs))->Calls Tryz.prog 36 #[.slice A (tysL (qy cs)).len c,.func (.func 38) #[] #[],.func (.func 39) #[] #[]] W (DepQ (tysL (qy cs)).depth W)):=hid fun W A c h=>qbT A _ c _ W h hfl;unfold QK;obtain⟨dx,hdx⟩:∃ r,r=Tr.depth (.nod k s n p kids arms .nil):=⟨_,rfl⟩
 obtain⟨F,hF⟩:∃ r,r=tysL (qy cs):=⟨_,rfl⟩
 rw[<- hF]at HF HT ⊢;rw[<- hdx]at HX ⊢;obtain⟨kl,hl1⟩:∃ l,l=kids.len:=⟨_,rfl⟩
 obtain⟨al,hl3⟩:∃ l,l=arms.len:=⟨_,rfl⟩
 obtain⟨S,hS⟩:∃ S:ByteArray,S=⟨s.toArray⟩:=⟨_,rfl⟩
 obtain⟨NM,hNM⟩:∃ S:ByteArray,S=⟨nm.toArray⟩:=⟨_,rfl⟩
 rw[<- hl1,<- hl3,<- hS]at HX;rw[<- hl1,<- hl3,<- hS,<- hNM]at HF ⊢;clear hk ha hsz hc hcl hfl hdx hF hl1 hl3 hS hNM;have hb1:Bel w (w.alloc (.cells #[.int .u8 kd,NM,q.a,q.l,q.c,.slice PA pl pc,.slice CA cl cc,.bool rc,.int .u8 k,S,n,p.a,p.l,p.c,.slice A kl c,.slice B al bc] 59)):=(Bel.refl w).alloc _;have HB1:=hid hb1;clear hb1;by_cases h2:kd=2
 ·subst h2
  rw[if_pos rfl];have q2:=blk2 w (.cells #[.int .u8 2,NM,q.a,q.l,q.c,.slice PA pl pc,.slice CA cl cc,.bool rc,.int .u8 k,S,n,p.a,p.l,p.c,.slice A kl c,.slice B al bc] 59) (.cells #[.int .u8 k,S,n,p.a,p.l,p.c,.slice A kl c,.slice B al bc] 43);have HC:=hid (HX.out (w.heap.size+1) _ _ (HB1.out.alloc _) q2.2);have HB2:=hid (HB1.out.alloc (.cells #[.int .u8 k,S,n,p.a,p.l,p.c,.slice A kl c,.slice B al bc] 43));clear q2 HX HF HT HB1;go_enter Tryz.func13,Tryz.ntmps13
  go_wp2_with fail
  refine HC.out.mono ?_;rintro e w5 ⟨rfl,hb5⟩;have HB5:=hid (HB2.out.on hb5);clear hb5;go_wp2_with fail
  go_ret
  exact⟨rfl,HB5.out⟩
 rw[if_neg h2];have k2:(kd==2)=false:=by simpa using h2
 clear HX h2;by_cases h1:kd=1
 ·subst h1
  rw[if_pos rfl];go_enter Tryz.func13,Tryz.ntmps13
  go_wp2_with fail
  refine (HF.out _ HB1.out).mono ?_;rintro e w5 ⟨A5,c5,rfl,hb5,hr5⟩;have HB5:=hid (HB1.out.on hb5);have HR5:=hid (hr5.wide (fun j hj=>by rcases hj with h | h;exact Nat.lt_of_lt_of_le h hb5.size;exact h.2));clear hb5 hr5;go_wp2_with fail
  refine (HT.out _ A5 c5 HR5.out).mono ?_;rintro e w6 ⟨rfl,hb6⟩;have HB6:=hid (HB5.out.on hb6);clear hb6;go_wp2_with fail
  go_ret
  exact⟨rfl,HB6.out⟩
 rw[if_neg h1];have k1:(kd==1)=false:=by simpa using h1
 clear HF HT h1;go_enter Tryz.func13,Tryz.ntmps13
 go_wp2_with fail
 go_ret
 exact⟨rfl,HB1.out⟩
theorem box5{w:World}{g:Nat}{t:TypeId}{x0 x1 x2 x3 x4:Value}(h:w.heap[g]?=some (.cells #[x0,x1,x2,x3,x4] t (0,0))) :
  w.cell? ⟨g,0,none⟩=some x0/\w.cell? ⟨g,4,none⟩=some x4:=by
 simp[World.cell?,h]
end Go.Proofs.YtfpoelklhekfaaaGreatDoor.Mu
