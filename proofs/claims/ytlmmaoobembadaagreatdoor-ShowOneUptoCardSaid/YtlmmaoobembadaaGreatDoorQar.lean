import Derived.Test.YtlmmaoobembadaaGreatDoorQaq
open Go.Lib (hid)
namespace Go.Proofs.YtlmmaoobembadaaGreatDoor.Mu
set_option maxHeartbeats 4000000
open Go Go.RowKit Go.Shelf
attribute [local go_sem] Oper.semAt_some
set_option linter.unusedVariables false
set_option maxRecDepth 100000
theorem qbV(k:Int)(s:List UInt8)(n:Int)(p:Pl)(A:Option Addr)(c:Nat)(B:Option Addr)(bc:Nat)(kids arms:Tr)(k2:Int)(s2:List UInt8)(n2:Int)(p2:Pl)(A2:Option Addr)(c2:Nat)(B2:Option Addr)(bc2:Nat)(kids2 arms2:Tr)(w:World)
  (hk:KidsTr w (OldT w) .ex A kids.len c kids) (ha:KidsTr w (OldT w) .arms B arms.len bc arms) (hk2:KidsTr w (OldT w) .ex A2 kids2.len c2 kids2) (ha2:KidsTr w (OldT w) .arms B2 arms2.len bc2 arms2) (hsz:kids.size+arms.size<=1000000) (hsz2:kids2.size+arms2.size<=1000000) :
  Calls Tryz.prog 38 #[.agg #[.int .u8 k,.string ⟨s.toArray⟩,n,p.a,p.l,p.c,.slice A kids.len c,.slice B arms.len bc],.agg #[.int .u8 k2,.string ⟨s2.toArray⟩,n2,p2.a,p2.l,p2.c,.slice A2 kids2.len c2,.slice B2 arms2.len bc2]] w (qj (decide (k=k2)&&decide (s=s2)&&decide (n=n2)&&patQ arms arms2) w):=by
 have HP1:Hid (∀ W,Bel w W->Calls Tryz.prog 69 #[.agg #[.int .u8 k,.string ⟨s.toArray⟩,n,p.a,p.l,p.c,.slice A kids.len c,.slice B arms.len bc]] W (jt W (OldT W) .pat arms.pats)):=hid fun W hW=>zA k s n p A c B bc kids arms (OldT W) W (hk.bel hW) (ha.bel hW) (fun _ h=>h) (by have:=kids.len_le;omega) (by have:=arms.len_le;omega);have HP2:Hid (∀ W,Bel w W->Calls Tryz.prog 69 #[.agg #[.int .u8 k2,.string ⟨s2.toArray⟩,n2,p2.a,p2.l,p2.c,.slice A2 kids2.len c2,.slice B2 arms2.len bc2]] W (jt W (OldT W) .pat arms2.pats)):=hid fun W hW=>zA k2 s2 n2 p2 A2 c2 B2 bc2 kids2 arms2 (OldT W) W (hk2.bel hW) (ha2.bel hW) (fun _ h=>h) (by have:=kids2.len_le;omega) (by have:=arms2.len_le;omega);have HS:Hid (∀ (A:Option Addr) (c:Nat) (A':Option Addr) (c':Nat) (W:World),KidsTr W (OldT W) .pat A arms.pats.len c arms.pats->KidsTr W (OldT W) .pat A' arms2.pats.len c' arms2.pats->Calls Tryz.prog 75 #[.slice A arms.pats.len c,.slice A' arms2.pats.len c',.func (.func 70) #[] #[],.func (.func 76) #[] #[]] W (qj (patQ arms arms2) W)):=hid fun A c A' c' W h1 h2=>qet A arms.pats.len c A' arms2.pats.len c' arms.pats arms2.pats W h1 h2 (by have:=arms.pats_size;omega) (by have:=arms2.pats_size;omega);obtain⟨q,hq⟩:∃ q,q=patQ arms arms2:=⟨_,rfl⟩
 rw[<- hq]at HS ⊢;obtain⟨G1,hG1⟩:∃ G,G=arms.pats:=⟨_,rfl⟩
 obtain⟨G2,hG2⟩:∃ G,G=arms2.pats:=⟨_,rfl⟩
 rw[<- hG1]at HP1;rw[<- hG2]at HP2;rw[<- hG1,<- hG2]at HS;obtain⟨l1,hl1⟩:∃ l,l=kids.len:=⟨_,rfl⟩
 obtain⟨l2,hl2⟩:∃ l,l=kids2.len:=⟨_,rfl⟩
 obtain⟨l3,hl3⟩:∃ l,l=arms.len:=⟨_,rfl⟩
 obtain⟨l4,hl4⟩:∃ l,l=arms2.len:=⟨_,rfl⟩
 rw[<- hl1,<- hl3]at HP1 ⊢;rw[<- hl2,<- hl4]at HP2 ⊢;have hne:s≠s2->(⟨s.toArray⟩:ByteArray).toList≠(⟨s2.toArray⟩:ByteArray).toList:=jV;clear hk ha hk2 ha2 hsz hsz2 hq hG1 hG2 hl1 hl2 hl3 hl4;by_cases dk:k=k2
 case neg=>
  have e:(decide (k=k2)&&decide (s=s2)&&decide (n=n2)&&q)=false:=by simp[dk]
  rw[e];have ek:(k==k2)=false:=by simpa using dk
  clear hne e;go_enter Tryz.func38,Tryz.ntmps38
  go_wp2_with fail
  go_quiet (fail)
  go_wp2_with fail
  go_ret
  exact⟨rfl,(((Bel.refl w).alloc _).alloc _).drewN _⟩
 subst dk;by_cases ds:s=s2
 case neg=>
  have e:(decide (k=k)&&decide (s=s2)&&decide (n=n2)&&q)=false:=by simp[ds]
  rw[e];obtain⟨S,hS⟩:∃ S:ByteArray,S=⟨s.toArray⟩:=⟨_,rfl⟩
  obtain⟨S2,hS2⟩:∃ S:ByteArray,S=⟨s2.toArray⟩:=⟨_,rfl⟩
  have qn:=hne ds;rw[<- hS,<- hS2]at qn;rw[<- hS,<- hS2];have qb:(S.toList==S2.toList)=false:=by simpa using qn
  clear hne e hS hS2 ds HP1 HP2 HS;go_enter Tryz.func38,Tryz.ntmps38
  go_wp2_with fail
  go_quiet (fail)
  go_wp2_with fail
  go_ret
  exact⟨rfl,(((Bel.refl w).alloc _).alloc _).drewN _⟩
 subst ds;obtain⟨S,hS⟩:∃ S:ByteArray,S=⟨s.toArray⟩:=⟨_,rfl⟩
 rw[<- hS]at HP1 HP2 ⊢;by_cases dn:n=n2
 case neg=>
  have e:(decide (k=k)&&decide (s=s)&&decide (n=n2)&&q)=false:=by simp[dn]
  rw[e];have en:(n==n2)=false:=by simpa using dn
  clear hne e hS HP1 HP2 HS;go_enter Tryz.func38,Tryz.ntmps38
  go_wp2_with fail
  go_quiet (fail)
  go_wp2_with fail
  go_ret
  exact⟨rfl,(((Bel.refl w).alloc _).alloc _).drewN _⟩
 subst dn;have e:(decide (k=k)&&decide (s=s)&&decide (n=n)&&q)=q:=by simp
 rw[e];clear hne e hS;have q1:=blk2 w (.cells #[.int .u8 k,S,n,p.a,p.l,p.c,.slice A l1 c,.slice B l3 bc] 32) (.cells #[.int .u8 k,S,n,p2.a,p2.l,p2.c,.slice A2 l2 c2,.slice B2 l4 bc2] 32);go_enter Tryz.func38,Tryz.ntmps38
 go_wp2_with fail
 have hb1:Bel w ((w.alloc (.cells #[.int .u8 k,S,n,p.a,p.l,p.c,.slice A l1 c,.slice B l3 bc] 32)).alloc (.cells #[.int .u8 k,S,n,p2.a,p2.l,p2.c,.slice A2 l2 c2,.slice B2 l4 bc2] 32)):=((Bel.refl w).alloc _).alloc _;obtain⟨w1,hw1⟩:∃ w1,w1=(w.alloc (.cells #[.int .u8 k,S,n,p.a,p.l,p.c,.slice A l1 c,.slice B l3 bc] 32)).alloc (.cells #[.int .u8 k,S,n,p2.a,p2.l,p2.c,.slice A2 l2 c2,.slice B2 l4 bc2] 32):=⟨_,rfl⟩
 have hs1:w1.heap.size=w.heap.size+2:=by rw[hw1];simp
 rw[<- hw1]at q1 hb1 ⊢;obtain⟨x0,x1,x2,x3,x4,x5,x6,x7⟩:=box8 q1.1;obtain⟨y0,y1,y2,y3,y4,y5,y6,y7⟩:=box8 q1.2;have HB1:=hid hb1;clear hw1 hb1 q1;refine qdT w.heap.size (w.heap.size+1) k n p.a p.l p.c p2.a p2.l p2.c S A B A2 B2 l1 c l3 bc l2 c2 l4 bc2 G1 G2 q _ _ _ _ _ _ _ _ _ _ _ _ _ _ _ _ _ _ _ _ _ _ _ _ _ _ _ _ _ _ w1 (by show w.heap.size<w1.heap.size;omega) (by show w.heap.size+1<w1.heap.size;omega) x0 y0 x1 y1 x2 y2 x3 y3 x4 y4 x5 y5 x6 y6 x7 y7 (fun W hW=>HP1.out W (HB1.out.drew.on hW)) (fun W hW=>HP2.out W (HB1.out.drew.on hW)) HS.out _ ?_;intro V w4 hb4 hv1;simp only[regAx,List.drop_succ_cons,List.drop_zero,qgF,hv1];have HB4:=hid (HB1.out.drew.on hb4);clear hb4 hv1 x0 x1 x2 x3 x4 x5 x6 x7 y0 y1 y2 y3 y4 y5 y6 y7;go_wp2_with fail
 go_ret
 exact⟨rfl,HB4.out⟩
theorem qhc(A:Option Addr)(n c:Nat)(B:Option Addr)(m d:Nat)(f g:Tr)(w:World)(hk:KidsTr w (OldT w) .ex A n c f)(hk2:KidsTr w (OldT w) .ex B m d g)(hsz:f.size<=1000000)(hsz2:g.size<=1000000) :
  Calls Tryz.prog 74 #[.slice A n c,.slice B m d,.func (.func 38) #[] #[]] w (qj (f.hds patQ g) w):=by
 have H:=hid hk;have H2:=hid hk2;have HL:Hid (n=f.len):=hid hk.1;have HL2:Hid (m=g.len):=hid hk2.1;have HSZ:=hid (And.intro hsz hsz2);have hn:n<=1000000:=by have:=hk.1;have:=f.len_le;omega
 have hm:m<=1000000:=by have:=hk2.1;have:=g.len_le;omega
 obtain⟨r,hr⟩:∃ r,r=f.hds patQ g:=⟨_,rfl⟩
 rw[<- hr];have HR:=hid hr;clear hk hk2 hsz hsz2 hr;have eg:∀ args w,(callFunc 38 args).run Tryz.prog w=.ok (.enter 38 args) w:=fun args w=>by kernel_rfl
 by_cases hnm:n=m
 case neg=>
  obtain rfl:r=false:=by
   rw[HR.out,Bool.eq_false_iff];intro h;have:=Tr.hds_len _ _ _ h;exact hnm (by rw[HL.out,HL2.out,this])
  have e0:((n:Int) != (m:Int))=true:=by simp;omega
  go_enter Tryz.func74,Tryz.ntmps74
  go_wp2_with fail
  go_ret
  exact⟨rfl,Bel.refl _⟩
 subst hnm;go_enter Tryz.func74,Tryz.ntmps74
 go_wp2_with fail
 go_loopw [17] (fun i wr=>∃ j:Nat,j<=n/\i=.int .i64 (j:Int)/\Hid (r=(f.drp j).hds patQ (g.drp j))/\Hid (Bel w wr)) (fun i _=>n-(intOf i).toNat)
 case atStart=>exact⟨0,Nat.zero_le _,rfl,hid (by rw[Tr.drp_zero,Tr.drp_zero];exact HR.out),hid (Bel.refl _)⟩
 case round=>
  obtain⟨j,hj,rfl,HRJ,HB⟩:=hrel;by_cases hlt:j<n
  ·obtain⟨ub,uo,eA,hob,hfo⟩:=(H.out.bel HB.out).2.2 (by omega)
   obtain⟨ub2,uo2,eA2,hob2,hfo2⟩:=(H2.out.bel HB.out).2.2 (by omega);subst eA eA2;obtain⟨k,s,nn,p,kids,arms,en,hd⟩:=TrAt.nod_at (by intro e;cases e) f j ub uo hfo (by rw[<- HL.out];exact hlt);obtain⟨k2,s2,nn2,p2,kids2,arms2,en2,hd2⟩:=TrAt.nod_at (by intro e;cases e) g j ub2 uo2 hfo2 (by rw[<- HL2.out];exact hlt);obtain⟨A',ca',B',cb',hc,hk',ha',_⟩:=hd.parts;obtain⟨A2',ca2',B2',cb2',hc2,hk2',ha2',_⟩:=hd2.parts;have hsn:=Tr.nth_size f j;have hsn2:=Tr.nth_size g j;rw[en]at hsn;rw[en2]at hsn2;simp only[Tr.size]at hsn hsn2;obtain⟨hb,hhb⟩:∃ hb,hb=(decide (k=k2)&&decide (s=s2)&&decide (nn=nn2)&&patQ arms arms2):=⟨_,rfl⟩
   have HRN:Hid (r=(hb&&(f.drp (j+1)).hds patQ (g.drp (j+1)))):=hid (by
    rw[HRJ.out,Tr.drp_at f j en,Tr.drp_at g j en2,hhb];rfl)
   have HC:Hid (∀ W,Bel wr W->Calls Tryz.prog 38 #[.agg #[.int .u8 k,.string ⟨s.toArray⟩,nn,p.a,p.l,p.c,.slice A' kids.len ca',.slice B' arms.len cb'],.agg #[.int .u8 k2,.string ⟨s2.toArray⟩,nn2,p2.a,p2.l,p2.c,.slice A2' kids2.len ca2',.slice B2' arms2.len cb2']] W (qj hb W)):=hid fun W hW=>by
    rw[hhb];have hW':Bel w W:=HB.out.on hW;rcases ha' with ⟨_,ha'⟩ | ⟨e | e,_⟩
    ·rcases ha2' with ⟨_,ha2'⟩ | ⟨e | e,_⟩
     ·exact qbV k s nn p A' ca' B' cb' kids arms k2 s2 nn2 p2 A2' ca2' B2' cb2' kids2 arms2 W (hk'.bel hW) (ha'.bel hW) (hk2'.bel hW) (ha2'.bel hW) (by have:=HSZ.out;omega) (by have:=HSZ.out;omega)
     ·cases e
     ·cases e
    ·cases e
    ·cases e
   have y0:=hc 0 _ rfl;have y1:=hc 1 _ rfl;have y2:=hc 2 _ rfl;have y3:=hc 3 _ rfl;have y4:=hc 4 _ rfl;have y5:=hc 5 _ rfl;have y6:=hc 6 _ rfl;have y7:=hc 7 _ rfl;have z0:=hc2 0 _ rfl;have z1:=hc2 1 _ rfl;have z2:=hc2 2 _ rfl;have z3:=hc2 3 _ rfl;have z4:=hc2 4 _ rfl;have z5:=hc2 5 _ rfl;have z6:=hc2 6 _ rfl;have z7:=hc2 7 _ rfl;simp only[Nat.add_zero,Sh.kd,Sh.sz]at y0 y1 y2 y3 y4 y5 y6 y7 z0 z1 z2 z3 z4 z5 z6 z7;obtain⟨l1,hl1⟩:∃ l,l=kids.len:=⟨_,rfl⟩
   obtain⟨l2,hl2⟩:∃ l,l=kids2.len:=⟨_,rfl⟩
   obtain⟨l3,hl3⟩:∃ l,l=arms.len:=⟨_,rfl⟩
   obtain⟨l4,hl4⟩:∃ l,l=arms2.len:=⟨_,rfl⟩
   obtain⟨SS,hSS⟩:∃ S:ByteArray,S=⟨s.toArray⟩:=⟨_,rfl⟩
   obtain⟨SS2,hSS2⟩:∃ S:ByteArray,S=⟨s2.toArray⟩:=⟨_,rfl⟩
   rw[<- hSS,<- hSS2,<- hl1,<- hl2,<- hl3,<- hl4]at HC;rw[<- hSS]at y1;rw[<- hSS2]at z1;rw[<- hl1]at y6;rw[<- hl2]at z6;rw[<- hl3]at y7;rw[<- hl4]at z7;have i1:(0:Int)<=(j:Int):=by omega
   have i2:(j:Int)<(n:Int):=by omega
   have HLT:=hid hlt;clear hc hc2 hk' hk2' ha' ha2' hsn hsn2 en en2 hd hd2 hfo hfo2 hl1 hl2 hl3 hl4 hSS hSS2 hhb;have hob':ub<wr.heap.size:=hob;have hob2':ub2<wr.heap.size:=hob2;clear hob hob2;go_wp2_with fail
   refine (HC.out _ (((Bel.refl wr).alloc _).alloc _)).mono ?_;rintro e w3 ⟨rfl,hb3⟩;have HB3:=hid (((HB.out.alloc _).alloc _).on hb3);clear hb3 HC y0 y1 y2 y3 y4 y5 y6 y7 z0 z1 z2 z3 z4 z5 z6 z7;cases hb
   ·obtain rfl:r=false:=by rw[HRN.out];rfl
    go_wp2_with fail
    go_ret
    exact⟨rfl,HB3.out⟩
   ·have HR':Hid (r=(f.drp (j+1)).hds patQ (g.drp (j+1))):=hid (by rw[HRN.out];rfl)
    go_wp2_with fail
    go_roundw
    case rel=>exact⟨j+1,HLT.out,by go_num,HR',HB3⟩
    case measure=>have:=HLT.out;simp[intOf];omega
  ·obtain rfl:j=n:=by omega
   obtain rfl:r=true:=by rw[HRJ.out,Tr.drp_end f j (by rw[<- HL.out];exact Nat.le_refl _),Tr.drp_end g j (by rw[<- HL2.out];exact Nat.le_refl _)];rfl
   go_wp2_with fail
   go_ret
   exact⟨rfl,HB.out⟩
theorem qfz:(Tryz.prog.info? 133).map (fun i=>(i.zero,i.size,i.bytes))=some (some (.agg #[.slice none 0 0,.slice none 0 0]),2,48):=by kernel_rfl
theorem qev(A:Option Addr)(n c:Nat)(B:Option Addr)(m d:Nat)(f g:Tr)(w:World)(hk:KidsTr w (OldT w) .ex A n c f)(hk2:KidsTr w (OldT w) .ex B m d g)(hsz:f.size<=1000000)(hsz2:g.size<=1000000) :
  Calls Tryz.prog 37 #[.slice A n c,.slice B m d,.func (.func 28) #[] #[],.func (.func 38) #[] #[]] w (qj (f.same g) w):=by
 have HK:=hid hk;have HK2:=hid hk2;have HSZ:=hid (And.intro hsz hsz2);obtain⟨r,hr⟩:∃ r,r=f.same g:=⟨_,rfl⟩
 rw[<- hr];have HR:=hid hr;have HN:=hid (And.intro hk.1 hk2.1);clear hk hk2 hsz hsz2 hr;obtain⟨i0,hi0,hz0,hz1,hz2⟩:=info_parts qfz;have eg:∀ args w,(callFunc 38 args).run Tryz.prog w=.ok (.enter 38 args) w:=fun args w=>by kernel_rfl
 have ek:∀ args w,(callFunc 28 args).run Tryz.prog w=.ok (.enter 28 args) w:=fun args w=>by kernel_rfl
 go_enter Tryz.func37,Tryz.ntmps37
 go_wp2_with fail
 obtain⟨base,hbase⟩:∃ base,base=w.heap.size:=⟨_,rfl⟩
 obtain⟨w1,hw1⟩:∃ w1,w1=w.alloc (.cells #[.slice A n c,.slice B m d] 133):=⟨_,rfl⟩
 have hb1:Bel w w1:=by rw[hw1];exact (Bel.refl w).alloc _
 have hq1:w1.heap[base]?=some (.cells #[.slice A n c,.slice B m d] 133 (0,0)):=by rw[hw1,hbase];exact blk1 w _
 have hs1:w1.heap.size=base+1:=by rw[hw1,hbase];simp
 rw[<- hw1,<- hbase];have HBS:=hid hbase;have HB1:=hid hb1;have HB2:Hid (base<=w1.heap.size):=hid (by omega);have HRW:Hid (w1.ownsRow base 133 2 (.slice (some ⟨base,0,none⟩) 1 1) 1 (prV [⟨⟨A,c,f⟩,⟨B,d,g⟩⟩])):=hid ⟨rfl,.inr ⟨base,1,_,rfl,Nat.le_refl _,hq1,Nat.le_refl _,by unfold maxLen;omega,rfl,by simp[prV,Pr.cells,It.val,<- HN.out.1,<- HN.out.2]⟩⟩;have HPI:Hid (PrI w1 (some ⟨base,0,none⟩) .ex [⟨⟨A,c,f⟩,⟨B,d,g⟩⟩]):=hid (by
  intro x hx;simp at hx;subst hx;have hw:∀ j,OldT w j->OkI w1 (fun _=>False) (some ⟨base,0,none⟩) j:=fun j hj=>⟨Nat.lt_of_lt_of_le hj hb1.size,fun h=>h,fun o e=>by cases e;have:base<w.heap.size:=hj;omega⟩
  have k1:=HK.out;have k2:=HK2.out;rw[HN.out.1]at k1;rw[HN.out.2]at k2;exact⟨⟨(k1.keep fun j hj=>hb1.block j hj).wide hw,HSZ.out.1⟩,⟨(k2.keep fun j hj=>hb1.block j hj).wide hw,HSZ.out.2⟩⟩)
 have HRA:Hid (r=allP [⟨⟨A,c,f⟩,⟨B,d,g⟩⟩]):=hid (by rw[HR.out];simp[allP]);have HMP:Hid (msP [⟨⟨A,c,f⟩,⟨B,d,g⟩⟩]<=1000001):=hid (by have:=HSZ.out.1;simp only[msP];omega);clear hb1 hq1 hs1 hw1 hbase HK HK2 HSZ HR HN;go_loopg [9] (msP [⟨⟨A,c,f⟩,⟨B,d,g⟩⟩]) (fun gk v wr=>∃ (S:List Pr) (A:Option Addr) (cc m:Nat),v=.slice A m cc/\Hid (m=S.length)/\Hid (gk=msP S)/\Hid (msP S<=1000001)/\Hid (wr.ownsRow base 133 2 (.slice A m cc) m (prV S))/\Hid (PrI wr A .ex S)/\Hid (r=allP S)/\Hid (Bel w wr)/\Hid (base<=wr.heap.size))
 case atStart=>exact⟨_,_,_,_,rfl,hid rfl,hid rfl,HMP,HRW,HPI,HRA,HB1,HB2⟩
 case round=>
  clear HRW HPI HRA HB1 HB2 HMP;obtain⟨S,A,cc,m,rfl,HM,HGK,HMS,HRW,HPI,HRA,HB,HBL⟩:=hrel;cases S with
  | nil=>
   obtain rfl:m=0:=HM.out;obtain rfl:r=true:=by rw[HRA.out];rfl
   go_wp2_with fail
   go_ret
   exact⟨rfl,HB.out⟩
  | cons x S=>
   obtain⟨mm,hmm⟩:∃ mm,mm=S.length:=⟨_,rfl⟩
   have hm:m=mm+1:=by rw[hmm];exact HM.out
   subst hm;obtain⟨g',eA,hbg,hgl,hcc,hcm,hca,hcb,hrow⟩:=qdK hmm HRW.out;subst eA;obtain⟨⟨xA,xc,xf⟩,⟨yA,yc,yf⟩⟩:=x;obtain⟨⟨kx,sx⟩,⟨ky,sy⟩⟩:=HPI.out _ List.mem_cons_self;simp only at kx ky sx sy;obtain⟨xl,hxl⟩:∃ l,l=xf.len:=⟨_,rfl⟩
   obtain⟨yl,hyl⟩:∃ l,l=yf.len:=⟨_,rfl⟩
   simp only[It.val,<- hxl]at hca;simp only[It.val,<- hyl]at hcb;rw[<- hxl]at kx;rw[<- hyl]at ky;obtain⟨hb,hhb⟩:∃ hb,hb=xf.hds patQ yf:=⟨_,rfl⟩
   have hOld:∀ j,OkI wr (fun _=>False) (some ⟨g',0,none⟩) j->OldT wr j:=fun j hj=>hj.1;have HE:Hid (∀ W,Bel wr W->Calls Tryz.prog 74 #[.slice xA xl xc,.slice yA yl yc,.func (.func 38) #[] #[]] W (qj hb W)):=hid fun W hW=>by
    rw[hhb];exact qhc xA xl xc yA yl yc xf yf W ((kx.wide hOld).bel hW) ((ky.wide hOld).bel hW) sx sy
   have HSP:Hid (r=((hb&&xf.kidsSame yf)&&allP S)):=hid (by
    rw[HRA.out];simp only[allP,List.all_cons];rw[hhb,<- Tr.same_split xf yf (kx.isNods (by intro e;cases e)) (ky.isNods (by intro e;cases e)) kx.ok ky.ok])
   have HKX:=hid kx;have HKY:=hid ky;have HSXY:=hid (And.intro sx sy);have HHB:=hid hhb;have HXL:=hid hxl;have HYL:=hid hyl;have HROW:=hid hrow;have HBG:=hid hbg;have HMM:=hid hmm;have hm63:mm+1<=9223372036854775807:=by unfold maxLen at hcm;omega
   have i0':(0:Int)<=(mm:Int):=by omega
   have i1:(mm:Int)<(mm:Int)+1:=by omega
   have i4:(mm:Int)<=(cc:Int):=by omega
   have z0:=qa hgl hca;have z1:=qa hgl hcb;clear kx ky sx sy hhb hxl hyl hrow hbg hmm hcm hOld HRW HRA;go_wp2_with fail
   go_quiet (fail)
   have HB4:Hid (∀ k,Bel wr (wr.drewN k)):=hid fun k=>(Bel.refl wr).drewN k;go_wp2_with fail
   clear z0 z1 hca hcb;refine (HE.out _ (HB4.out _)).mono ?_;rintro e w5 ⟨rfl,hb5⟩;have HB5:=hid ((HB4.out _).on hb5);have HBW5:=hid (HB.out.on ((HB4.out _).on hb5));clear hb5 HE HB4;cases hb
   ·obtain rfl:r=false:=by rw[HSP.out];rfl
    go_wp2_with fail
    go_ret
    exact⟨rfl,HBW5.out⟩
   ·have hlen:xl=yl:=by rw[HXL.out,HYL.out];exact Tr.hds_len _ _ _ HHB.out.symm
    subst hlen;have hxl2:xl<=1000000:=by rw[HXL.out];have:=xf.len_le;have:=HSXY.out.1;omega
    have hst:∀ j,OkI wr (fun _=>False) (some ⟨g',0,none⟩) j->w5.heap[j]?=wr.heap[j]?:=fun j hj=>HB5.out.block j hj.1;have HIN:Hid (KidsTr w5 (OkI w5 (fun _=>False) (some ⟨g',0,none⟩)) .ex xA xl xc xf/\KidsTr w5 (OkI w5 (fun _=>False) (some ⟨g',0,none⟩)) .ex yA xl yc yf):=hid ⟨HKX.out.stepI HB5.out.size hst (fun _ h=>h.elim) (fun j o e=> .inl ⟨o,e⟩),HKY.out.stepI HB5.out.size hst (fun _ h=>h.elim) (fun j o e=> .inl ⟨o,e⟩)⟩;have HPS:Hid (PrI w5 (some ⟨g',0,none⟩) .ex S):=hid (PrI.step (fun y hy=>HPI.out y (List.mem_cons_of_mem _ hy)) HB5.out.size hst (fun j o e=> .inl ⟨o,e⟩));have HRO:Hid (w5.ownsRow base 133 2 (.slice (some ⟨g',0,none⟩) mm cc) mm (prV S)):=hid (qk HROW.out HB5.out);have HBL5:Hid (base<=w5.heap.size):=hid (Nat.le_trans HBL.out HB5.out.size);have HRI:Hid (r=(allP S&&(xf.drp 0).kidsSame (yf.drp 0))):=hid (by rw[Tr.drp_zero,Tr.drp_zero,HSP.out,Bool.true_and,Bool.and_comm]);have HMI:Hid (msP S+(xf.drp 0).size<=msP S+xf.size):=hid (by rw[Tr.drp_zero];exact Nat.le_refl _);have HMB:Hid (msP S+xf.size<=1000000):=hid (by have:=HMS.out;simp only[msP]at this;omega);have HM':=HMM;clear hst HKX HKY HB5 HPI HROW HSP HHB;go_wp2_with fail
    go_loopw [9,48] (fun v iv wx=>∃ (q:Nat) (S2:List Pr) (A2:Option Addr) (c2 m2:Nat),q<=xl/\iv=.int .i64 (q:Int)/\v=.slice A2 m2 c2/\Hid (m2=S2.length)/\Hid (wx.ownsRow base 133 2 (.slice A2 m2 c2) m2 (prV S2))/\Hid (PrI wx A2 .ex S2)/\Hid (KidsTr wx (OkI wx (fun _=>False) A2) .ex xA xl xc xf/\KidsTr wx (OkI wx (fun _=>False) A2) .ex yA xl yc yf)/\Hid (r=(allP S2&&(xf.drp q).kidsSame (yf.drp q)))/\Hid (msP S2+(xf.drp q).size<=msP S+xf.size)/\Hid (Bel w wx)/\Hid (base<=wx.heap.size)) (fun _ i _=>xl-(intOf i).toNat)
    case atStart=>exact⟨0,S,_,_,_,Nat.zero_le _,rfl,rfl,HMM,HRO,HPS,HIN,HRI,HMI,HBW5,HBL5⟩
    case round=>
     clear HRO HPS HIN HRI HMI HBW5 HBL5;obtain⟨q,S2,A2,c2,m2,hq,rfl,rfl,HM2,HR2,HP2,HI2,HRR,HMM2,HBW,HBLX⟩:=hrel;obtain⟨wx,rfl⟩:∃ wx:World,wx=wr:=⟨_,rfl⟩
     by_cases hlt:q<xl
     ·obtain⟨ub,uo,eA,hob,hfo⟩:=HI2.out.1.2.2 (by omega)
      obtain⟨ub2,uo2,eA2,hob2,hfo2⟩:=HI2.out.2.2.2 (by omega);subst eA eA2;obtain⟨k,s,nn,p,kids,arms,en,hd⟩:=TrAt.nod_at (by intro e;cases e) xf q ub uo hfo (by rw[<- HXL.out];exact hlt);obtain⟨k2,s2,nn2,p2,kids2,arms2,en2,hd2⟩:=TrAt.nod_at (by intro e;cases e) yf q ub2 uo2 hfo2 (by rw[<- HYL.out];exact hlt);obtain⟨A',ca',B',cb',hc,hk',ha',_⟩:=hd.parts;obtain⟨A2',ca2',B2',cb2',hc2,hk2',ha2',_⟩:=hd2.parts;have hdq:=Tr.drp_at xf q en;have hdq2:=Tr.drp_at yf q en2;have hdsz:=Tr.drp_size xf q;have hdsz2:=Tr.drp_size yf q;rw[hdq]at hdsz;rw[hdq2]at hdsz2;simp only[Tr.size]at hdsz hdsz2;have sx1:=HSXY.out.1;have sy1:=HSXY.out.2;obtain⟨F1,hF1⟩:∃ F,F=kids.app arms.exs:=⟨_,rfl⟩
      obtain⟨F2,hF2⟩:∃ F,F=kids2.app arms2.exs:=⟨_,rfl⟩
      have HF:Hid (r=(allP S2&&(F1.same F2&&(xf.drp (q+1)).kidsSame (yf.drp (q+1))))):=hid (by
       rw[HRR.out,hdq,hdq2,hF1,hF2];rfl)
      have hex:=Tr.exs_size arms;have hex2:=Tr.exs_size arms2;have HF1:Hid (F1.size<=kids.size+arms.size/\F2.size<=1000000/\F1.size<=1000000):=hid (by rw[hF1,hF2,Tr.app_size,Tr.app_size];omega);have HMQ:Hid (msP S2+(1+F1.size+(xf.drp (q+1)).size)<=msP S+xf.size):=hid (by
       have h:=HMM2.out;rw[hdq]at h;simp only[Tr.size]at h;have:=HF1.out.1;omega)
      have HC1:Hid (∀ W,Bel wx W->Calls Tryz.prog 28 #[.agg #[.int .u8 k,.string ⟨s.toArray⟩,nn,p.a,p.l,p.c,.slice A' kids.len ca',.slice B' arms.len cb']] W (jt W (OkI wx (fun _=>False) A2) .ex F1)):=hid fun W hW=>by
       rw[hF1];rcases ha' with ⟨_,ha'⟩ | ⟨e | e,_⟩
       ·exact zz k s nn p A' ca' B' cb' kids arms (OkI wx (fun _=>False) A2) W (hk'.keep fun j hj=>hW.block j hj.1) (ha'.keep fun j hj=>hW.block j hj.1) (fun j hj=>Nat.lt_of_lt_of_le hj.1 hW.size) (by have:=kids.len_le;omega) (by have:=arms.len_le;omega)
       ·cases e
       ·cases e
      have HC2:Hid (∀ W,Bel wx W->Calls Tryz.prog 28 #[.agg #[.int .u8 k2,.string ⟨s2.toArray⟩,nn2,p2.a,p2.l,p2.c,.slice A2' kids2.len ca2',.slice B2' arms2.len cb2']] W (jt W (OkI wx (fun _=>False) A2) .ex F2)):=hid fun W hW=>by
       rw[hF2];rcases ha2' with ⟨_,ha2'⟩ | ⟨e | e,_⟩
       ·exact zz k2 s2 nn2 p2 A2' ca2' B2' cb2' kids2 arms2 (OkI wx (fun _=>False) A2) W (hk2'.keep fun j hj=>hW.block j hj.1) (ha2'.keep fun j hj=>hW.block j hj.1) (fun j hj=>Nat.lt_of_lt_of_le hj.1 hW.size) (by have:=kids2.len_le;omega) (by have:=arms2.len_le;omega)
       ·cases e
       ·cases e
      have y0:=hc 0 _ rfl;have y1:=hc 1 _ rfl;have y2:=hc 2 _ rfl;have y3:=hc 3 _ rfl;have y4:=hc 4 _ rfl;have y5:=hc 5 _ rfl;have y6:=hc 6 _ rfl;have y7:=hc 7 _ rfl;have z0:=hc2 0 _ rfl;have z1:=hc2 1 _ rfl;have z2:=hc2 2 _ rfl;have z3:=hc2 3 _ rfl;have z4:=hc2 4 _ rfl;have z5:=hc2 5 _ rfl;have z6:=hc2 6 _ rfl;have z7:=hc2 7 _ rfl;simp only[Nat.add_zero,Sh.kd,Sh.sz]at y0 y1 y2 y3 y4 y5 y6 y7 z0 z1 z2 z3 z4 z5 z6 z7;obtain⟨l1,hl1⟩:∃ l,l=kids.len:=⟨_,rfl⟩
      obtain⟨l2,hl2⟩:∃ l,l=kids2.len:=⟨_,rfl⟩
      obtain⟨l3,hl3⟩:∃ l,l=arms.len:=⟨_,rfl⟩
      obtain⟨l4,hl4⟩:∃ l,l=arms2.len:=⟨_,rfl⟩
      obtain⟨SS,hSS⟩:∃ S:ByteArray,S=⟨s.toArray⟩:=⟨_,rfl⟩
      obtain⟨SS2,hSS2⟩:∃ S:ByteArray,S=⟨s2.toArray⟩:=⟨_,rfl⟩
      rw[<- hSS]at y1;rw[<- hSS2]at z1;rw[<- hl1]at y6;rw[<- hl2]at z6;rw[<- hl3]at y7;rw[<- hl4]at z7;rw[<- hSS,<- hl1,<- hl3]at HC1;rw[<- hSS2,<- hl2,<- hl4]at HC2;have j1:(0:Int)<=(q:Int):=by omega
      have j2:(q:Int)<(xl:Int):=by omega
      have HLT:=hid hlt;have hob':ub<wx.heap.size:=hob.1;have hob2':ub2<wx.heap.size:=hob2.1;clear hc hc2 hk' hk2' ha' ha2' en en2 hd hd2 hfo hfo2 hl1 hl2 hl3 hl4 hSS hSS2 hdq hdq2 hdsz hdsz2 sx1 sy1 hex hex2 hob hob2 hF1 hF2;have hA2:∀ j o,A2=some ⟨j,o,none⟩->j<wx.heap.size:=by
       intro j o e;subst e;exact (HR2.out.lt j rfl).2
      have HA2:=hid hA2;clear hA2;go_wp2_with fail
      refine qd1 ub uo ub2 uo2 xl xc yc q k nn p.a p.l p.c k2 nn2 p2.a p2.l p2.c SS SS2 A' B' A2' B2' l1 ca' l3 cb' l2 ca2' l4 cb2' F1 F2 (OkI wx (fun _=>False) A2) wx.heap.size _ _ _ _ _ _ _ _ _ _ _ _ _ _ _ _ _ _ _ _ _ _ _ _ _ _ _ _ _ _ _ _ _ _ _ _ _ _ _ _ _ _ _ _ _ _ _ _ _ _ _ _ _ _ _ _ _ _ _ _ _ _ _ _ _ _ _ _ _ _ _ _ _ _ _ wx j1 j2 (Nat.le_refl _) (fun j hj=>hj.1) hob' hob2' y0 z0 y1 z1 y2 z2 y3 z3 y4 z4 y5 z5 y6 z6 y7 z7 (fun W hW=>HC1.out W ((Bel.refl wx).drew.on hW)) (fun W hW=>HC2.out W ((Bel.refl wx).drew.on hW)) _ ?_;intro V w7 hb7 hv5 hv11;obtain⟨_,U1,C1,e5,hk5⟩:=hv5;obtain⟨_,U2,C2,e11,hk11⟩:=hv11;simp only[regKx,List.drop_succ_cons,List.drop_zero,qgI,e5,e11];have HB7:Hid (Bel wx w7):=hid ((Bel.refl wx).drew.on hb7);have hwd:∀ j,(OkI wx (fun _=>False) A2 j∨(wx.heap.size<=j/\j<w7.heap.size))->OkI w7 (fun _=>False) A2 j:=fun j hj=>by
       rcases hj with hj | hj
       ·exact OkI.step HB7.out.size (fun _ h=>h.elim) (fun j o e=> .inl ⟨o,e⟩) hj
       ·exact⟨hj.2,fun h=>h,fun o e=>by have:=HA2.out j o e;omega⟩
      obtain⟨L1,hL1⟩:∃ l,l=F1.len:=⟨_,rfl⟩
      obtain⟨L2,hL2⟩:∃ l,l=F2.len:=⟨_,rfl⟩
      rw[<- hL1]at hk5 ⊢;rw[<- hL2]at hk11 ⊢;have HKK7:=hid (And.intro (hk5.wide hwd) (hk11.wide hwd));have HLL:=hid (And.intro hL1 hL2);clear hb7 e5 e11 hk5 hk11 HC1 HC2 hL1 hL2 hwd y0 y1 y2 y3 y4 y5 y6 y7 z0 z1 z2 z3 z4 z5 z6 z7;have HRW7:=hid (qk HR2.out HB7.out);have HPI7:=hid (qdJ HP2.out HB7.out);have HI7:=hid (And.intro (zc HI2.out.1 HB7.out) (zc HI2.out.2 HB7.out));have hbl7:base<=w7.heap.size:=Nat.le_trans HBLX.out HB7.out.size;have hm2b:m2<=1000001:=by
       rw[HM2.out];have:=Jh S2;have:=HMQ.out;have:=HMB.out;omega
      by_cases h1:L1=0
      ·by_cases h2:L2=0
       ·subst h1 h2
        have HR8:Hid (r=(allP S2&&(xf.drp (q+1)).kidsSame (yf.drp (q+1)))):=hid (by
         rw[HF.out,Tr.len_nil F1 HLL.out.1.symm,Tr.len_nil F2 HLL.out.2.symm];simp[Tr.same])
        have HMS8:Hid (msP S2+(xf.drp (q+1)).size<=msP S+xf.size):=hid (by have:=HMQ.out;omega);have HBW8:=hid (HBW.out.on HB7.out);have HBL8:=hid hbl7;go_wp2_with fail
        go_roundw
        case rel=>exact⟨q+1,S2,A2,c2,m2,HLT.out,by go_num,rfl,HM2,HRW7,HPI7,HI7,HR8,HMS8,HBW8,HBL8⟩
        case measure=>have:=HLT.out;simp[intOf];omega
       ·subst h1
        have d2:decide ((0:Int)<(L2:Int))=true:=by simp;omega
        have d3:decide (0<L2)=true:=by simp;omega
        go_wp2_with (at_builtin;refine jj ?_)
        unfold zY;refine wpList_append_own_at _ rfl _ _ 134 rfl base 133 i0 (.agg #[.slice none 0 0,.slice none 0 0]) 2 48 Tryz.underlying134 hi0 hz0 hz1 hz2 rfl (by decide) (.slice A2 m2 c2) m2 _ rfl (HRW7.out.alloc _) ⟨w7.heap.size,0,none⟩ 1 1 [.slice U1 0 C1,.slice U2 L2 C2] rfl rfl (fun j u hu=>by rw[Addr.add_lit,Nat.zero_add];exact zm _ _ _ j u hu) (by simp[Value.oneCell']) (by unfold maxLen;omega) (by omega) (by simp;omega) ?_;intro v' w8 hown8 hg8 _ hat8;obtain⟨g8,c8,rfl,hrow8,hpi8,hki8,hbw8,hbl8⟩:=zN (w0:=w) (K:=⟨⟨U1,C1,F1⟩,⟨U2,C2,F2⟩⟩) HRW7.out HPI7.out (by rw[<- HLL.out.1];exact HKK7.out.1) (by rw[<- HLL.out.2];exact HKK7.out.2) ⟨HF1.out.2.2,HF1.out.2.1⟩ (by have h:=hown8;simp only[Pr.cells,It.val,<- HLL.out.1,<- HLL.out.2];exact h) hg8 hat8 (HBW.out.on HB7.out) (by rw[HBS.out];exact Nat.le_refl _) hbl7;have HRW8:=hid hrow8;have HPI8:=hid hpi8;have HII8:=hid (And.intro (hki8 _ _ _ _ HI7.out.1) (hki8 _ _ _ _ HI7.out.2));have HBW8:=hid hbw8;have HBL8:=hid hbl8;have HR8:Hid (r=(allP (⟨⟨U1,C1,F1⟩,⟨U2,C2,F2⟩⟩::S2)&&(xf.drp (q+1)).kidsSame (yf.drp (q+1)))):=hid (by
         rw[HF.out];simp only[allP,List.all_cons];cases F1.same F2 <;> cases S2.all (fun x=>x.a.f.same x.b.f) <;> simp)
        have HM8:Hid (m2+1=(⟨⟨U1,C1,F1⟩,⟨U2,C2,F2⟩⟩::S2:List Pr).length):=hid (by rw[HM2.out];rfl);have HMS8:Hid (msP (⟨⟨U1,C1,F1⟩,⟨U2,C2,F2⟩⟩::S2)+(xf.drp (q+1)).size<=msP S+xf.size):=hid (by have:=HMQ.out;simp only[msP];omega);clear hown8 hg8 hat8 hrow8 hpi8 hki8 hbw8 hbl8;go_wp2_with fail
        go_roundw
        case rel=>exact⟨q+1,_,_,c8,m2+1,HLT.out,by go_num,rfl,HM8,HRW8,HPI8,HII8,HR8,HMS8,HBW8,HBL8⟩
        case measure=>have:=HLT.out;simp[intOf];omega
      ·have d2:decide ((0:Int)<(L1:Int))=true:=by simp;omega
       have d3:decide (0<L1)=true:=by simp;omega
       go_wp2_with (at_builtin;refine jj ?_)
       unfold zY;refine wpList_append_own_at _ rfl _ _ 134 rfl base 133 i0 (.agg #[.slice none 0 0,.slice none 0 0]) 2 48 Tryz.underlying134 hi0 hz0 hz1 hz2 rfl (by decide) (.slice A2 m2 c2) m2 _ rfl (HRW7.out.alloc _) ⟨w7.heap.size,0,none⟩ 1 1 [.slice U1 L1 C1,.slice U2 L2 C2] rfl rfl (fun j u hu=>by rw[Addr.add_lit,Nat.zero_add];exact zm _ _ _ j u hu) (by simp[Value.oneCell']) (by unfold maxLen;omega) (by omega) (by simp;omega) ?_;intro v' w8 hown8 hg8 _ hat8;obtain⟨g8,c8,rfl,hrow8,hpi8,hki8,hbw8,hbl8⟩:=zN (w0:=w) (K:=⟨⟨U1,C1,F1⟩,⟨U2,C2,F2⟩⟩) HRW7.out HPI7.out (by rw[<- HLL.out.1];exact HKK7.out.1) (by rw[<- HLL.out.2];exact HKK7.out.2) ⟨HF1.out.2.2,HF1.out.2.1⟩ (by have h:=hown8;simp only[Pr.cells,It.val,<- HLL.out.1,<- HLL.out.2];exact h) hg8 hat8 (HBW.out.on HB7.out) (by rw[HBS.out];exact Nat.le_refl _) hbl7;have HRW8:=hid hrow8;have HPI8:=hid hpi8;have HII8:=hid (And.intro (hki8 _ _ _ _ HI7.out.1) (hki8 _ _ _ _ HI7.out.2));have HBW8:=hid hbw8;have HBL8:=hid hbl8;have HR8:Hid (r=(allP (⟨⟨U1,C1,F1⟩,⟨U2,C2,F2⟩⟩::S2)&&(xf.drp (q+1)).kidsSame (yf.drp (q+1)))):=hid (by
        rw[HF.out];simp only[allP,List.all_cons];cases F1.same F2 <;> cases S2.all (fun x=>x.a.f.same x.b.f) <;> simp)
       have HM8:Hid (m2+1=(⟨⟨U1,C1,F1⟩,⟨U2,C2,F2⟩⟩::S2:List Pr).length):=hid (by rw[HM2.out];rfl);have HMS8:Hid (msP (⟨⟨U1,C1,F1⟩,⟨U2,C2,F2⟩⟩::S2)+(xf.drp (q+1)).size<=msP S+xf.size):=hid (by have:=HMQ.out;simp only[msP];omega);clear hown8 hg8 hat8 hrow8 hpi8 hki8 hbw8 hbl8;go_wp2_with fail
       go_roundw
       case rel=>exact⟨q+1,_,_,c8,m2+1,HLT.out,by go_num,rfl,HM8,HRW8,HPI8,HII8,HR8,HMS8,HBW8,HBL8⟩
       case measure=>have:=HLT.out;simp[intOf];omega
     ·obtain rfl:q=xl:=by omega
      have HRE:Hid (r=allP S2):=hid (by rw[HRR.out,Tr.drp_end xf q (by rw[<- HXL.out];exact Nat.le_refl _),Tr.drp_end yf q (by rw[<- HYL.out];exact Nat.le_refl _)];simp[Tr.kidsSame]);have HMS2:Hid (msP S2<=1000001):=hid (by have:=HMM2.out;have:=HMB.out;omega);go_wp2_with fail
      go_roundg (msP S2)
      case rel=>exact⟨S2,A2,c2,m2,rfl,HM2,hid rfl,HMS2,HR2,HP2,HRE,HBW,HBLX⟩
      case measure=>
       rw[HGK.out];have:=HMM2.out;simp only[msP];omega
end Go.Proofs.YtlmmaoobembadaaGreatDoor.Mu
