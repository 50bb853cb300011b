import Derived.Test.YtlmmaoobembadaaGreatDoorQay
open Go.Lib (hid)
namespace Go.Proofs.YtlmmaoobembadaaGreatDoor.Mu
set_option maxHeartbeats 4000000
open Go Go.RowKit Go.Shelf
attribute [local go_sem] Oper.semAt_some
set_option linter.unusedVariables false
set_option maxRecDepth 100000
theorem qhl:(Tryz.prog.info? 34).map (fun i=>i.size)=some 16:=by kernel_rfl
theorem Jr(w:World)(g:Nat)(hg:w.heap.size=g)(v0 v1 v2 v3 v4 v5 v6 v7 v8 v9 v10 v11 v12 v13 v14 v15:Value)(h:(#[v0,v1,v2,v3,v4,v5,v6,v7,v8,v9,v10,v11,v12,v13,v14,v15]:Array Value).all (·.oneCell')=true) :
  ((Sem.run Tryz.prog (store ⟨g,0,none⟩ v0) (w.alloc (.cells #[.int .u8 0,.string ⟨#[]⟩,(0:Int),(0:Int),(0:Int),.slice none 0 0,.slice none 0 0,.bool false,.int .u8 0,.string ⟨#[]⟩,(0:Int),(0:Int),(0:Int),(0:Int),.slice none 0 0,.slice none 0 0] 34))).andThen fun _ w1=>(Sem.run Tryz.prog (store ⟨g,1,none⟩ v1) w1).andThen fun _ w2=>(Sem.run Tryz.prog (store ⟨g,2,none⟩ v2) w2).andThen fun _ w3=>(Sem.run Tryz.prog (store ⟨g,3,none⟩ v3) w3).andThen fun _ w4=>(Sem.run Tryz.prog (store ⟨g,4,none⟩ v4) w4).andThen fun _ w5=>(Sem.run Tryz.prog (store ⟨g,5,none⟩ v5) w5).andThen fun _ w6=>(Sem.run Tryz.prog (store ⟨g,6,none⟩ v6) w6).andThen fun _ w7=>(Sem.run Tryz.prog (store ⟨g,7,none⟩ v7) w7).andThen fun _ w8=>(Sem.run Tryz.prog (store ⟨g,8,none⟩ v8) w8).andThen fun _ w9=>(Sem.run Tryz.prog (store ⟨g,9,none⟩ v9) w9).andThen fun _ w10=>(Sem.run Tryz.prog (store ⟨g,10,none⟩ v10) w10).andThen fun _ w11=>(Sem.run Tryz.prog (store ⟨g,11,none⟩ v11) w11).andThen fun _ w12=>(Sem.run Tryz.prog (store ⟨g,12,none⟩ v12) w12).andThen fun _ w13=>(Sem.run Tryz.prog (store ⟨g,13,none⟩ v13) w13).andThen fun _ w14=>(Sem.run Tryz.prog (store ⟨g,14,none⟩ v14) w14).andThen fun _ w15=>Sem.run Tryz.prog (store ⟨g,15,none⟩ v15) w15)=.ok () (w.alloc (.cells #[v0,v1,v2,v3,v4,v5,v6,v7,v8,v9,v10,v11,v12,v13,v14,v15] 34)):=by
 subst hg;have:=run_storeCells_new (P:=Tryz.prog) w 34 #[.int .u8 0,.string ⟨#[]⟩,(0:Int),(0:Int),(0:Int),.slice none 0 0,.slice none 0 0,.bool false,.int .u8 0,.string ⟨#[]⟩,(0:Int),(0:Int),(0:Int),(0:Int),.slice none 0 0,.slice none 0 0] #[v0,v1,v2,v3,v4,v5,v6,v7,v8,v9,v10,v11,v12,v13,v14,v15] qhl rfl h;simpa [go_sem,Sem.run_bind] using this
theorem Zw{w:World}{g:Nat}{t:TypeId}{x0 x1 x2 x3 x4 x5 x6 x7 x8 x9 x10 x11 x12 x13 x14 x15:Value}(h:w.heap[g]?=some (.cells #[x0,x1,x2,x3,x4,x5,x6,x7,x8,x9,x10,x11,x12,x13,x14,x15] t (0,0))) :
  w.cell? ⟨g,6,none⟩=some x6/\w.cell? ⟨g,7,none⟩=some x7/\w.cell? ⟨g,8,none⟩=some x8/\w.cell? ⟨g,9,none⟩=some x9/\w.cell? ⟨g,10,none⟩=some x10/\w.cell? ⟨g,11,none⟩=some x11/\w.cell? ⟨g,12,none⟩=some x12/\w.cell? ⟨g,13,none⟩=some x13/\w.cell? ⟨g,14,none⟩=some x14/\w.cell? ⟨g,15,none⟩=some x15:=by
 simp[World.cell?,h]
theorem qbR(kd:Int)(nm:List UInt8)(q:Pl)(PA:Option Addr)(pc:Nat)(ps:List (List UInt8))(CA:Option Addr)(cc:Nat)(cs:List Cd)(rc:Bool)(k:Int)(s:List UInt8)(n:Int)(p:Pl)(A:Option Addr)(c:Nat)(B:Option Addr)(bc:Nat)(kids arms:Tr)(kd2:Int)(nm2:List UInt8)(q2:Pl)(PA2:Option Addr)(pc2:Nat)(ps2:List (List UInt8))(CA2:Option Addr)(cc2:Nat)(cs2:List Cd)(rc2:Bool)(k2:Int)(s2:List UInt8)(n2:Int)(p2:Pl)(A2:Option Addr)(c2:Nat)(B2:Option Addr)(bc2:Nat)(kids2 arms2:Tr)(w:World)
  (hp:RowOf 1 SAt w (OldT w) PA ps.length pc ps) (hc:RowOf 5 CdAt w (OldT w) CA cs.length cc cs) (hk:KidsTr w (OldT w) .ex A kids.len c kids) (ha:KidsTr w (OldT w) .arms B arms.len bc arms) (hg:cs.length<=1000000/\ps.length<=1100000/\kids.size+arms.size<=900000/\∀ c∈cs,c.good) (hp2:RowOf 1 SAt w (OldT w) PA2 ps2.length pc2 ps2) (hc2:RowOf 5 CdAt w (OldT w) CA2 cs2.length cc2 cs2) (hk2:KidsTr w (OldT w) .ex A2 kids2.len c2 kids2) (ha2:KidsTr w (OldT w) .arms B2 arms2.len bc2 arms2) (hg2:cs2.length<=1000000/\ps2.length<=1100000/\kids2.size+arms2.size<=900000/\∀ c∈cs2,c.good) :
  Calls Tryz.prog 41 #[.agg #[.int .u8 kd,.string ⟨nm.toArray⟩,q.a,q.l,q.c,.slice PA ps.length pc,.slice CA cs.length cc,.bool rc,.int .u8 k,.string ⟨s.toArray⟩,n,p.a,p.l,p.c,.slice A kids.len c,.slice B arms.len bc],.agg #[.int .u8 kd2,.string ⟨nm2.toArray⟩,q2.a,q2.l,q2.c,.slice PA2 ps2.length pc2,.slice CA2 cs2.length cc2,.bool rc2,.int .u8 k2,.string ⟨s2.toArray⟩,n2,p2.a,p2.l,p2.c,.slice A2 kids2.len c2,.slice B2 arms2.len bc2]] w (qj (decide (kd=kd2)&&decide (nm=nm2)&&decide (ps=ps2)&&lsame Cd.same cs cs2&&decide (rc=rc2)&&Tr.same (.nod k s n p kids arms .nil) (.nod k2 s2 n2 p2 kids2 arms2 .nil)) w):=by
 have HP:Hid (∀ W,Bel w W->Calls Tryz.prog 77 #[.slice PA ps.length pc,.slice PA2 ps2.length pc2] W (qj (decide (ps=ps2)) W)):=hid fun W hW=>qha PA _ pc PA2 _ pc2 ps ps2 W (hp.bel zH hW) (hp2.bel zH hW) hg.2.1 hg2.2.1;have HC:Hid (∀ W,Bel w W->Calls Tryz.prog 78 #[.slice CA cs.length cc,.slice CA2 cs2.length cc2,.func (.func 79) #[] #[]] W (qj (lsame Cd.same cs cs2) W)):=hid fun W hW=>qg6 CA _ cc CA2 _ cc2 cs cs2 W (hc.bel qN hW) (hc2.bel qN hW) hg.1 hg2.1 hg.2.2.2 hg2.2.2.2;have HX:Hid (∀ W,Bel w W->Calls Tryz.prog 11 #[.agg #[.int .u8 k,.string ⟨s.toArray⟩,n,p.a,p.l,p.c,.slice A kids.len c,.slice B arms.len bc],.agg #[.int .u8 k2,.string ⟨s2.toArray⟩,n2,p2.a,p2.l,p2.c,.slice A2 kids2.len c2,.slice B2 arms2.len bc2]] W (qj (Tr.same (.nod k s n p kids arms .nil) (.nod k2 s2 n2 p2 kids2 arms2 .nil)) W)):=hid fun W hW=>zC k s n p A c B bc kids arms k2 s2 n2 p2 A2 c2 B2 bc2 kids2 arms2 W (hk.bel hW) (ha.bel hW) (hk2.bel hW) (ha2.bel hW) hg.2.2.1 hg2.2.2.1;obtain⟨rx,hrx⟩:∃ r,r=Tr.same (.nod k s n p kids arms .nil) (.nod k2 s2 n2 p2 kids2 arms2 .nil):=⟨_,rfl⟩
 obtain⟨rc',hrc'⟩:∃ r,r=lsame Cd.same cs cs2:=⟨_,rfl⟩
 obtain⟨rp,hrp⟩:∃ r,r=decide (ps=ps2):=⟨_,rfl⟩
 obtain⟨rn,hrn⟩:∃ r,r=decide (nm=nm2):=⟨_,rfl⟩
 rw[<- hrp]at HP;rw[<- hrc']at HC;rw[<- hrx]at HX;rw[<- hrp,<- hrc',<- hrx,<- hrn];obtain⟨l1,hl1⟩:∃ l,l=kids.len:=⟨_,rfl⟩
 obtain⟨l2,hl2⟩:∃ l,l=kids2.len:=⟨_,rfl⟩
 obtain⟨l3,hl3⟩:∃ l,l=arms.len:=⟨_,rfl⟩
 obtain⟨l4,hl4⟩:∃ l,l=arms2.len:=⟨_,rfl⟩
 obtain⟨l5,hl5⟩:∃ l,l=ps.length:=⟨_,rfl⟩
 obtain⟨l6,hl6⟩:∃ l,l=ps2.length:=⟨_,rfl⟩
 obtain⟨l7,hl7⟩:∃ l,l=cs.length:=⟨_,rfl⟩
 obtain⟨l8,hl8⟩:∃ l,l=cs2.length:=⟨_,rfl⟩
 obtain⟨S,hS⟩:∃ S:ByteArray,S=⟨s.toArray⟩:=⟨_,rfl⟩
 obtain⟨S2,hS2⟩:∃ S:ByteArray,S=⟨s2.toArray⟩:=⟨_,rfl⟩
 have hne:nm≠nm2->(⟨nm.toArray⟩:ByteArray).toList≠(⟨nm2.toArray⟩:ByteArray).toList:=jV;have qn:((⟨nm.toArray⟩:ByteArray).toList==(⟨nm2.toArray⟩:ByteArray).toList)=rn:=by
  rw[hrn];by_cases dn:nm=nm2
  ·subst dn;simp
  ·have:=hne dn;simp[dn]
 obtain⟨NM,hNM⟩:∃ S:ByteArray,S=⟨nm.toArray⟩:=⟨_,rfl⟩
 obtain⟨NM2,hNM2⟩:∃ S:ByteArray,S=⟨nm2.toArray⟩:=⟨_,rfl⟩
 rw[<- hNM,<- hNM2]at qn;rw[<- hl5,<- hl6]at HP;rw[<- hl7,<- hl8]at HC;rw[<- hl1,<- hl2,<- hl3,<- hl4,<- hS,<- hS2]at HX;rw[<- hl1,<- hl2,<- hl3,<- hl4,<- hl5,<- hl6,<- hl7,<- hl8,<- hS,<- hS2,<- hNM,<- hNM2];clear hp hp2 hc hc2 hk hk2 ha ha2 hg hg2 hrx hrc' hrp hrn hl1 hl2 hl3 hl4 hl5 hl6 hl7 hl8 hS hS2 hNM hNM2 hne;by_cases dk:kd=kd2
 case neg=>
  have e:(decide (kd=kd2)&&rn&&rp&&rc'&&decide (rc=rc2)&&rx)=false:=by simp[dk]
  rw[e];have ek:(kd==kd2)=false:=by simpa using dk
  clear e HP HC HX qn;go_enter Tryz.func41,Tryz.ntmps41
  go_wp2_with fail
  go_ret
  exact⟨rfl,((Bel.refl w).alloc _).alloc _⟩
 subst dk;have e:(decide (kd=kd)&&rn&&rp&&rc'&&decide (rc=rc2)&&rx)=(rn&&rp&&rc'&&decide (rc=rc2)&&rx):=by simp
 rw[e];clear e;cases rn
 case false=>
  have e:(false&&rp&&rc'&&decide (rc=rc2)&&rx)=false:=rfl;rw[e];clear e HP HC HX;go_enter Tryz.func41,Tryz.ntmps41
  go_wp2_with fail
  go_ret
  exact⟨rfl,((Bel.refl w).alloc _).alloc _⟩
 have e:(true&&rp&&rc'&&decide (rc=rc2)&&rx)=(rp&&rc'&&decide (rc=rc2)&&rx):=by simp
 rw[e];clear e;go_enter Tryz.func41,Tryz.ntmps41
 go_wp2_with fail
 have q1:=blk2 w (.cells #[.int .u8 kd,NM,q.a,q.l,q.c,.slice PA l5 pc,.slice CA l7 cc,.bool rc,.int .u8 k,S,n,p.a,p.l,p.c,.slice A l1 c,.slice B l3 bc] 34) (.cells #[.int .u8 kd,NM2,q2.a,q2.l,q2.c,.slice PA2 l6 pc2,.slice CA2 l8 cc2,.bool rc2,.int .u8 k2,S2,n2,p2.a,p2.l,p2.c,.slice A2 l2 c2,.slice B2 l4 bc2] 34);have hb1:Bel w ((w.alloc (.cells #[.int .u8 kd,NM,q.a,q.l,q.c,.slice PA l5 pc,.slice CA l7 cc,.bool rc,.int .u8 k,S,n,p.a,p.l,p.c,.slice A l1 c,.slice B l3 bc] 34)).alloc (.cells #[.int .u8 kd,NM2,q2.a,q2.l,q2.c,.slice PA2 l6 pc2,.slice CA2 l8 cc2,.bool rc2,.int .u8 k2,S2,n2,p2.a,p2.l,p2.c,.slice A2 l2 c2,.slice B2 l4 bc2] 34)):=((Bel.refl w).alloc _).alloc _;obtain⟨w1,hw1⟩:∃ w1,w1=(w.alloc (.cells #[.int .u8 kd,NM,q.a,q.l,q.c,.slice PA l5 pc,.slice CA l7 cc,.bool rc,.int .u8 k,S,n,p.a,p.l,p.c,.slice A l1 c,.slice B l3 bc] 34)).alloc (.cells #[.int .u8 kd,NM2,q2.a,q2.l,q2.c,.slice PA2 l6 pc2,.slice CA2 l8 cc2,.bool rc2,.int .u8 k2,S2,n2,p2.a,p2.l,p2.c,.slice A2 l2 c2,.slice B2 l4 bc2] 34):=⟨_,rfl⟩
 rw[<- hw1]at q1 hb1 ⊢;clear hw1;refine (HP.out w1 hb1).mono ?_;rintro e w3 ⟨rfl,hb3⟩;have HB3:=hid (hb1.on hb3);have HQ:=hid (And.intro (hb3.blk q1.1) (hb3.blk q1.2));clear hb3 hb1 q1 HP;cases rp
 case false=>
  have e:(false&&rc'&&decide (rc=rc2)&&rx)=false:=rfl;rw[e];clear e HC HX HQ;go_wp2_with fail
  go_ret
  exact⟨rfl,HB3.out⟩
 have e:(true&&rc'&&decide (rc=rc2)&&rx)=(rc'&&decide (rc=rc2)&&rx):=by simp
 rw[e];clear e;obtain⟨x6,y6⟩:=And.intro (Zw HQ.out.1).1 (Zw HQ.out.2).1;have i1:=(Array.getElem?_eq_some_iff.1 HQ.out.1).1;have i2:=(Array.getElem?_eq_some_iff.1 HQ.out.2).1;go_wp2_with fail
 refine (HC.out w3 HB3.out).mono ?_;rintro e w4 ⟨rfl,hb4⟩;have HB4:=hid (HB3.out.on hb4);have HQ4:=hid (And.intro (hb4.blk HQ.out.1) (hb4.blk HQ.out.2));clear hb4 HC HQ x6 y6 i1 i2 HB3;cases rc'
 case false=>
  have e:(false&&decide (rc=rc2)&&rx)=false:=rfl;rw[e];clear e HX HQ4;go_wp2_with fail
  go_ret
  exact⟨rfl,HB4.out⟩
 have e:(true&&decide (rc=rc2)&&rx)=(decide (rc=rc2)&&rx):=by simp
 rw[e];clear e;have i1:=(Array.getElem?_eq_some_iff.1 HQ4.out.1).1;have i2:=(Array.getElem?_eq_some_iff.1 HQ4.out.2).1;obtain⟨_,x7,x8,x9,x10,x11,x12,x13,x14,x15⟩:=Zw HQ4.out.1;obtain⟨_,y7,y8,y9,y10,y11,y12,y13,y14,y15⟩:=Zw HQ4.out.2;by_cases dr:rc=rc2
 case neg=>
  have e:(decide (rc=rc2)&&rx)=false:=by simp[dr]
  rw[e];clear e HX HQ4;cases rc <;> cases rc2
  ·exact absurd rfl dr
  ·clear dr
   go_wp2_with fail
   go_ret
   exact⟨rfl,HB4.out⟩
  ·clear dr
   go_wp2_with fail
   go_ret
   exact⟨rfl,HB4.out⟩
  ·exact absurd rfl dr
 subst dr;have e:(decide (rc=rc)&&rx)=rx:=by simp
 rw[e];clear e HQ4;go_wp2_with fail
 refine (HX.out w4 HB4.out).mono ?_;rintro e w5 ⟨rfl,hb5⟩;have HB5:=hid (HB4.out.on hb5);clear hb5 HX x7 x8 x9 x10 x11 x12 x13 x14 x15 y7 y8 y9 y10 y11 y12 y13 y14 y15;go_wp2_with fail
 go_ret
 exact⟨rfl,HB5.out⟩
theorem qg7(A:Option Addr)(n c:Nat)(B:Option Addr)(m d:Nat)(f g:List Dc)(w:World)(hk:RowOf 16 DcAt w (OldT w) A n c f)(hk2:RowOf 16 DcAt w (OldT w) B m d g)(hn:n<=1000000)(hm:m<=1000000)(hg:∀ x∈f,x.good)(hg2:∀ x∈g,x.good) :
  Calls Tryz.prog 40 #[.slice A n c,.slice B m d,.func (.func 41) #[] #[]] w (qj (lsame Dc.same f g) w):=by
 have H:=hid hk;have H2:=hid hk2;have HL:Hid (n=f.length):=hid hk.1;have HL2:Hid (m=g.length):=hid hk2.1;have HG:=hid (And.intro hg hg2);obtain⟨r,hr⟩:∃ r,r=lsame Dc.same f g:=⟨_,rfl⟩
 rw[<- hr];have HR:=hid hr;clear hk hk2 hg hg2 hr;have eg:∀ args w,(callFunc 41 args).run Tryz.prog w=.ok (.enter 41 args) w:=fun args w=>by kernel_rfl
 by_cases hnm:n=m
 case neg=>
  obtain rfl:r=false:=by
   rw[HR.out,Bool.eq_false_iff];intro h;have:=jP _ _ _ h;exact hnm (by rw[HL.out,HL2.out,this])
  have e0:((n:Int) != (m:Int))=true:=by simp;omega
  go_enter Tryz.func40,Tryz.ntmps40
  go_wp2_with fail
  go_ret
  exact⟨rfl,Bel.refl _⟩
 subst hnm;go_enter Tryz.func40,Tryz.ntmps40
 go_wp2_with fail
 go_loopw [17] (fun i wr=>∃ j:Nat,j<=n/\i=.int .i64 (j:Int)/\Hid (r=lsame Dc.same (f.drop j) (g.drop j))/\Hid (Bel w wr)) (fun i _=>n-(intOf i).toNat)
 case atStart=>exact⟨0,Nat.zero_le _,rfl,HR,hid (Bel.refl _)⟩
 case round=>
  obtain⟨j,hj,rfl,HRJ,HB⟩:=hrel;by_cases hlt:j<n
  ·obtain⟨ub,uo,eA,hob,hfo⟩:=(H.out.bel q9 HB.out).2.2 (by omega)
   obtain⟨ub2,uo2,eA2,hob2,hfo2⟩:=(H2.out.bel q9 HB.out).2.2 (by omega);subst eA eA2;obtain⟨x,hx⟩:∃ x,f[j]?=some x:=⟨_,List.getElem?_eq_getElem (by rw[<- HL.out];exact hlt)⟩
   obtain⟨y,hy⟩:∃ y,g[j]?=some y:=⟨_,List.getElem?_eq_getElem (by rw[<- HL2.out];exact hlt)⟩
   have hd:=hfo j x hx;have hd2:=hfo2 j y hy;have hgx:=HG.out.1 x (List.mem_of_getElem? hx);have hgy:=HG.out.2 y (List.mem_of_getElem? hy);obtain⟨hb,hhb⟩:∃ hb,hb=Dc.same x y:=⟨_,rfl⟩
   have HRN:Hid (r=(hb&&lsame Dc.same (f.drop (j+1)) (g.drop (j+1)))):=hid (by rw[HRJ.out,Qg _ hx hy,hhb]);clear hfo hfo2;obtain⟨PA,pc,CA,cc,A',ca',B',cb',hp,hcc,hkk,haa,y0,y1,y2,y3,y4,y5,y6,y7,y8,y9,y10,y11,y12,y13,y14,y15⟩:=hd.cells;obtain⟨PA2,pc2,CA2,cc2,A2',ca2',B2',cb2',hp2,hcc2,hkk2,haa2,z0,z1,z2,z3,z4,z5,z6,z7,z8,z9,z10,z11,z12,z13,z14,z15⟩:=hd2.cells;obtain⟨kd,nm,q,ps,cs,rc,k,s,nn,p,kids,arms⟩:=x;obtain⟨kd2,nm2,q2,ps2,cs2,rc2,k2,s2,nn2,p2,kids2,arms2⟩:=y;have HC:Hid (∀ W,Bel wr W->Calls Tryz.prog 41 #[.agg #[.int .u8 kd,.string ⟨nm.toArray⟩,q.a,q.l,q.c,.slice PA ps.length pc,.slice CA cs.length cc,.bool rc,.int .u8 k,.string ⟨s.toArray⟩,nn,p.a,p.l,p.c,.slice A' kids.len ca',.slice B' arms.len cb'],.agg #[.int .u8 kd2,.string ⟨nm2.toArray⟩,q2.a,q2.l,q2.c,.slice PA2 ps2.length pc2,.slice CA2 cs2.length cc2,.bool rc2,.int .u8 k2,.string ⟨s2.toArray⟩,nn2,p2.a,p2.l,p2.c,.slice A2' kids2.len ca2',.slice B2' arms2.len cb2']] W (qj hb W)):=hid fun W hW=>by
    rw[hhb];exact qbR kd nm q PA pc ps CA cc cs rc k s nn p A' ca' B' cb' kids arms kd2 nm2 q2 PA2 pc2 ps2 CA2 cc2 cs2 rc2 k2 s2 nn2 p2 A2' ca2' B2' cb2' kids2 arms2 W (hp.bel zH hW) (hcc.bel qN hW) (hkk.bel hW) (haa.bel hW) hgx (hp2.bel zH hW) (hcc2.bel qN hW) (hkk2.bel hW) (haa2.bel hW) hgy
   simp only[]at y0 y1 y2 y3 y4 y5 y6 y7 y8 y9 y10 y11 y12 y13 y14 y15 z0 z1 z2 z3 z4 z5 z6 z7 z8 z9 z10 z11 z12 z13 z14 z15;obtain⟨l1,hl1⟩:∃ l,l=kids.len:=⟨_,rfl⟩
   obtain⟨l2,hl2⟩:∃ l,l=kids2.len:=⟨_,rfl⟩
   obtain⟨l3,hl3⟩:∃ l,l=arms.len:=⟨_,rfl⟩
   obtain⟨l4,hl4⟩:∃ l,l=arms2.len:=⟨_,rfl⟩
   obtain⟨l5,hl5⟩:∃ l,l=ps.length:=⟨_,rfl⟩
   obtain⟨l6,hl6⟩:∃ l,l=ps2.length:=⟨_,rfl⟩
   obtain⟨l7,hl7⟩:∃ l,l=cs.length:=⟨_,rfl⟩
   obtain⟨l8,hl8⟩:∃ l,l=cs2.length:=⟨_,rfl⟩
   obtain⟨SS,hSS⟩:∃ S:ByteArray,S=⟨s.toArray⟩:=⟨_,rfl⟩
   obtain⟨SS2,hSS2⟩:∃ S:ByteArray,S=⟨s2.toArray⟩:=⟨_,rfl⟩
   obtain⟨NM,hNM⟩:∃ S:ByteArray,S=⟨nm.toArray⟩:=⟨_,rfl⟩
   obtain⟨NM2,hNM2⟩:∃ S:ByteArray,S=⟨nm2.toArray⟩:=⟨_,rfl⟩
   rw[<- hSS,<- hSS2,<- hNM,<- hNM2,<- hl1,<- hl2,<- hl3,<- hl4,<- hl5,<- hl6,<- hl7,<- hl8]at HC;rw[<- hNM]at y1;rw[<- hNM2]at z1;rw[<- hl5]at y5;rw[<- hl6]at z5;rw[<- hl7]at y6;rw[<- hl8]at z6;rw[<- hSS]at y9;rw[<- hSS2]at z9;rw[<- hl1]at y14;rw[<- hl2]at z14;rw[<- hl3]at y15;rw[<- hl4]at z15;clear hp hp2 hcc hcc2 hkk hkk2 haa haa2 hgx hgy hhb hl1 hl2 hl3 hl4 hl5 hl6 hl7 hl8 hSS hSS2 hNM hNM2 hx hy hd hd2;obtain⟨v0,hv0,ov0⟩:=oC (x:= .int .u8 kd) rfl;obtain⟨v1,hv1,ov1⟩:=oC (x:= .string NM) rfl;obtain⟨v2,hv2,ov2⟩:=oC (x:= .int .i64 q.a) rfl;obtain⟨v3,hv3,ov3⟩:=oC (x:= .int .i64 q.l) rfl;obtain⟨v4,hv4,ov4⟩:=oC (x:= .int .i64 q.c) rfl;obtain⟨v5,hv5,ov5⟩:=oC (x:= .slice PA l5 pc) rfl;obtain⟨v6,hv6,ov6⟩:=oC (x:= .slice CA l7 cc) rfl;obtain⟨v7,hv7,ov7⟩:=oC (x:= .bool rc) rfl;obtain⟨v8,hv8,ov8⟩:=oC (x:= .int .u8 k) rfl;obtain⟨v9,hv9,ov9⟩:=oC (x:= .string SS) rfl;obtain⟨v10,hv10,ov10⟩:=oC (x:= .int .i64 nn) rfl;obtain⟨v11,hv11,ov11⟩:=oC (x:= .int .i64 p.a) rfl;obtain⟨v12,hv12,ov12⟩:=oC (x:= .int .i64 p.l) rfl;obtain⟨v13,hv13,ov13⟩:=oC (x:= .int .i64 p.c) rfl;obtain⟨v14,hv14,ov14⟩:=oC (x:= .slice A' l1 ca') rfl;obtain⟨v15,hv15,ov15⟩:=oC (x:= .slice B' l3 cb') rfl;rw[<- hv0,<- hv1,<- hv2,<- hv3,<- hv4,<- hv5,<- hv6,<- hv7,<- hv8,<- hv9,<- hv10,<- hv11,<- hv12,<- hv13,<- hv14,<- hv15]at HC;rw[<- hv0]at y0;rw[<- hv1]at y1;rw[<- hv2]at y2;rw[<- hv3]at y3;rw[<- hv4]at y4;rw[<- hv5]at y5;rw[<- hv6]at y6;rw[<- hv7]at y7;rw[<- hv8]at y8;rw[<- hv9]at y9;rw[<- hv10]at y10;rw[<- hv11]at y11;rw[<- hv12]at y12;rw[<- hv13]at y13;rw[<- hv14]at y14;rw[<- hv15]at y15;have HOv:Hid ((#[v0,v1,v2,v3,v4,v5,v6,v7,v8,v9,v10,v11,v12,v13,v14,v15]:Array Value).all (·.oneCell')=true):=hid (by simp[ov0,ov1,ov2,ov3,ov4,ov5,ov6,ov7,ov8,ov9,ov10,ov11,ov12,ov13,ov14,ov15]);clear hv0 ov0 hv1 ov1 hv2 ov2 hv3 ov3 hv4 ov4 hv5 ov5 hv6 ov6 hv7 ov7 hv8 ov8 hv9 ov9 hv10 ov10 hv11 ov11 hv12 ov12 hv13 ov13 hv14 ov14 hv15 ov15;obtain⟨u0,hu0,ou0⟩:=oC (x:= .int .u8 kd2) rfl;obtain⟨u1,hu1,ou1⟩:=oC (x:= .string NM2) rfl;obtain⟨u2,hu2,ou2⟩:=oC (x:= .int .i64 q2.a) rfl;obtain⟨u3,hu3,ou3⟩:=oC (x:= .int .i64 q2.l) rfl;obtain⟨u4,hu4,ou4⟩:=oC (x:= .int .i64 q2.c) rfl;obtain⟨u5,hu5,ou5⟩:=oC (x:= .slice PA2 l6 pc2) rfl;obtain⟨u6,hu6,ou6⟩:=oC (x:= .slice CA2 l8 cc2) rfl;obtain⟨u7,hu7,ou7⟩:=oC (x:= .bool rc2) rfl;obtain⟨u8,hu8,ou8⟩:=oC (x:= .int .u8 k2) rfl;obtain⟨u9,hu9,ou9⟩:=oC (x:= .string SS2) rfl;obtain⟨u10,hu10,ou10⟩:=oC (x:= .int .i64 nn2) rfl;obtain⟨u11,hu11,ou11⟩:=oC (x:= .int .i64 p2.a) rfl;obtain⟨u12,hu12,ou12⟩:=oC (x:= .int .i64 p2.l) rfl;obtain⟨u13,hu13,ou13⟩:=oC (x:= .int .i64 p2.c) rfl;obtain⟨u14,hu14,ou14⟩:=oC (x:= .slice A2' l2 ca2') rfl;obtain⟨u15,hu15,ou15⟩:=oC (x:= .slice B2' l4 cb2') rfl;rw[<- hu0,<- hu1,<- hu2,<- hu3,<- hu4,<- hu5,<- hu6,<- hu7,<- hu8,<- hu9,<- hu10,<- hu11,<- hu12,<- hu13,<- hu14,<- hu15]at HC;rw[<- hu0]at z0;rw[<- hu1]at z1;rw[<- hu2]at z2;rw[<- hu3]at z3;rw[<- hu4]at z4;rw[<- hu5]at z5;rw[<- hu6]at z6;rw[<- hu7]at z7;rw[<- hu8]at z8;rw[<- hu9]at z9;rw[<- hu10]at z10;rw[<- hu11]at z11;rw[<- hu12]at z12;rw[<- hu13]at z13;rw[<- hu14]at z14;rw[<- hu15]at z15;have HOu:Hid ((#[u0,u1,u2,u3,u4,u5,u6,u7,u8,u9,u10,u11,u12,u13,u14,u15]:Array Value).all (·.oneCell')=true):=hid (by simp[ou0,ou1,ou2,ou3,ou4,ou5,ou6,ou7,ou8,ou9,ou10,ou11,ou12,ou13,ou14,ou15]);clear hu0 ou0 hu1 ou1 hu2 ou2 hu3 ou3 hu4 ou4 hu5 ou5 hu6 ou6 hu7 ou7 hu8 ou8 hu9 ou9 hu10 ou10 hu11 ou11 hu12 ou12 hu13 ou13 hu14 ou14 hu15 ou15;have i1:(0:Int)<=(j:Int):=by omega
   have i2:(j:Int)<(n:Int):=by omega
   have HLT:=hid hlt;have hob':ub<wr.heap.size:=hob;have hob2':ub2<wr.heap.size:=hob2;clear hob hob2;go_wp2_with fail
   rw[Jr wr wr.heap.size rfl v0 v1 v2 v3 v4 v5 v6 v7 v8 v9 v10 v11 v12 v13 v14 v15 HOv.out];go_wp2_with fail
   rw[Jr (wr.alloc (.cells #[v0,v1,v2,v3,v4,v5,v6,v7,v8,v9,v10,v11,v12,v13,v14,v15] 34)) (wr.heap.size+1) (by simp) u0 u1 u2 u3 u4 u5 u6 u7 u8 u9 u10 u11 u12 u13 u14 u15 HOu.out];go_wp2_with fail
   refine (HC.out _ (((Bel.refl wr).alloc _).alloc _)).mono ?_;rintro e w3 ⟨rfl,hb3⟩;have HB3:=hid (((HB.out.alloc _).alloc _).on hb3);clear hb3 HC y0 y1 y2 y3 y4 y5 y6 y7 y8 y9 y10 y11 y12 y13 y14 y15 z0 z1 z2 z3 z4 z5 z6 z7 z8 z9 z10 z11 z12 z13 z14 z15;cases hb
   ·obtain rfl:r=false:=by rw[HRN.out];rfl
    go_wp2_with fail
    go_ret
    exact⟨rfl,HB3.out⟩
   ·have HR':Hid (r=lsame Dc.same (f.drop (j+1)) (g.drop (j+1))):=hid (by rw[HRN.out];rfl)
    go_wp2_with fail
    go_roundw
    case rel=>exact⟨j+1,HLT.out,by go_num,HR',HB3⟩
    case measure=>have:=HLT.out;simp[intOf];omega
  ·obtain rfl:j=n:=by omega
   obtain rfl:r=true:=by rw[HRJ.out,List.drop_eq_nil_of_le (by rw[<- HL.out];exact Nat.le_refl _),List.drop_eq_nil_of_le (by rw[<- HL2.out];exact Nat.le_refl _)];rfl
   go_wp2_with fail
   go_ret
   exact⟨rfl,HB.out⟩
theorem qfV(A:Option Addr)(n c:Nat)(B:Option Addr)(m d:Nat)(f g:List Dc)(w:World)(hk:RowOf 16 DcAt w (OldT w) A n c f)(hk2:RowOf 16 DcAt w (OldT w) B m d g)(hn:n<=1000000)(hm:m<=1000000)(hg:∀ x∈f,x.good)(hg2:∀ x∈g,x.good) :
  Calls Tryz.prog 13 #[.slice A n c,.slice B m d] w (qj (lsame Dc.same f g) w):=by
 have HC:=hid (qg7 A n c B m d f g w hk hk2 hn hm hg hg2);clear hk hk2 hn hm hg hg2;go_enter Tryz.func13,Tryz.ntmps13
 go_wp2_with fail
 refine HC.out.mono ?_;rintro e w5 ⟨rfl,hb5⟩;go_wp2_with fail
 go_ret
 exact⟨rfl,hb5⟩
end Go.Proofs.YtlmmaoobembadaaGreatDoor.Mu
