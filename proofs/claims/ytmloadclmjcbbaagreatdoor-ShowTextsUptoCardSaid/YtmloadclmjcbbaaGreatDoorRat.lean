import Derived.Test.YtmloadclmjcbbaaGreatDoorRaq
open Go.Lib (hid)
set_option linter.unusedSimpArgs false
namespace Go.Proofs.YtmloadclmjcbbaaGreatDoor.Mu
set_option maxHeartbeats 16000000
open Go Go.RowKit Go.Shelf
attribute [local go_sem] Oper.semAt_some
set_option linter.unusedVariables false
set_option maxRecDepth 100000
theorem qbM(A:OA)(n c:Nat)(xs:List Dc)(w:World)(hk:RowOf 16 DcAt w (OldT w) A n c xs)(hn:n<=1000000)(hg:∀ x∈xs,x.good/\x.ints)(ht:Tbl w) :
  Calls Tryz.prog 7 #[.slice A n c] w (StR (.tuple #[.string ⟨(tlO xs).1.toArray⟩,.int .i64 (tlO xs).2]) w):=by
 have H:=hid hk;have HL:Hid (n=xs.length):=hid hk.1;have HG:=hid hg;have HT:=hid ht;obtain⟨R,hR⟩:=nW (tlO xs);have HR:Hid (R=if xs.all dcMay then wrO ((dsK xs).map Tn.b) else ([],2)):=hid (by rw[hR];rfl);rw[<- hR];clear hk hg ht hR;go_enter Tryz.func7,Tryz.ntmps7;go_wp2_with fail;go_loopw [11] (fun i wr=>∃ j:Nat,j<=n/\i=.int .i64 (j:Int)/\Hid (xs.all dcMay=(xs.drop j).all dcMay)/\Hid (Bel w wr)) (fun i _=>n-(intOf i).toNat)
 case atStart=>exact⟨0,zL _,rfl,hid rfl,hid (Bel.refl _)⟩
 case round=>
  obtain⟨j,hj,rfl,HRJ,HB⟩:=hrel;by_cases hlt:j<n
  ·obtain⟨ub,uo,eA,hob,hfo⟩:=(H.bel Qk HB).2.2 (by omega)
   subst eA;obtain⟨x,hx⟩:∃ x,xs[j]?=some x:=⟨_,eG (by rw[<- HL.out];exact hlt)⟩
   have hd:=hfo j x hx;have hgx:=HG.out x (mGg hx);have hmx:=hd.mok;obtain⟨PA,pc,CA,cc,A',ca',B',cb',hp,hcc,hkk,haa,y0,y1,y2,y3,y4,y5,y6,y7,y8,y9,y10,y11,y12,y13,y14,y15⟩:=hd.cells;obtain⟨kd,nm,q,ps,cs,rc,k,s,nn,p,kids,arms⟩:=x;simp only[]at y0 y1 y2 y3 y4 y5 y6 y7 y8 y9 y10 y11 y12 y13 y14 y15 hp hcc hkk haa;have hjd:(xs.drop j).all dcMay=(dcMay ⟨kd,nm,q,ps,cs,rc,k,s,nn,p,kids,arms⟩&&(xs.drop (j+1)).all dcMay):=by
    obtain⟨h1,h2⟩:=eJ.1 hx;rw[List.drop_eq_getElem_cons h1,h2,List.all_cons]
   obtain⟨hb,hhb⟩:=nW (dcMay ⟨kd,nm,q,ps,cs,rc,k,s,nn,p,kids,arms⟩);have HRN:Hid (xs.all dcMay=(hb&&(xs.drop (j+1)).all dcMay)):=hid (by rw[HRJ.out,hjd,hhb]);have HC:Hid (∀ W,Bel wr W->Calls Tryz.prog 18 #[.agg #[.int .u8 kd,.string ⟨nm.toArray⟩,q.a,q.l,q.c,.slice PA ps.length pc,.slice CA cs.length cc,.bool rc,.int .u8 k,.string ⟨s.toArray⟩,nn,p.a,p.l,p.c,.slice A' kids.len ca',.slice B' arms.len cb']] W (qu hb W)):=hid fun W hW=>by
    rw[hhb];exact qb6 kd nm q PA pc ps CA cc cs rc k s nn p A' ca' B' cb' kids arms W (hp.bel jx hW) (hcc.bel zN hW) (hkk.bel hW) (haa.bel hW) hgx.1 (HT.bel (HB.on hW)) hgx.2
   obtain⟨kl,hkl⟩:=nW kids.len;obtain⟨al,hal⟩:=nW arms.len;obtain⟨pl,hpl⟩:=nW ps.length;obtain⟨cl,hcl⟩:=nW cs.length;obtain⟨SS,hSS⟩:=nW (⟨s.toArray⟩:BA);obtain⟨NM,hNM⟩:=nW (⟨nm.toArray⟩:BA);rw[<- hkl,<- hal,<- hpl,<- hcl,<- hSS,<- hNM]at HC;rw[<- hNM]at y1;rw[<- hpl]at y5;rw[<- hcl]at y6;rw[<- hSS]at y9;rw[<- hkl]at y14;rw[<- hal]at y15;obtain⟨v0,hv0,ov0⟩:=oC (x:= .int .u8 kd) rfl;obtain⟨v1,hv1,ov1⟩:=oC (x:= .string NM) rfl;obtain⟨v2,hv2,ov2⟩:=oC (x:= .int .i64 q.a) rfl;obtain⟨v3,hv3,ov3⟩:=oC (x:= .int .i64 q.l) rfl;obtain⟨v4,hv4,ov4⟩:=oC (x:= .int .i64 q.c) rfl;obtain⟨v5,hv5,ov5⟩:=oC (x:= .slice PA pl pc) rfl;obtain⟨v6,hv6,ov6⟩:=oC (x:= .slice CA cl cc) rfl;obtain⟨v7,hv7,ov7⟩:=oC (x:= .bool rc) rfl;obtain⟨v8,hv8,ov8⟩:=oC (x:= .int .u8 k) rfl;obtain⟨v9,hv9,ov9⟩:=oC (x:= .string SS) rfl;obtain⟨v10,hv10,ov10⟩:=oC (x:= .int .i64 nn) rfl;obtain⟨v11,hv11,ov11⟩:=oC (x:= .int .i64 p.a) rfl;obtain⟨v12,hv12,ov12⟩:=oC (x:= .int .i64 p.l) rfl;obtain⟨v13,hv13,ov13⟩:=oC (x:= .int .i64 p.c) rfl;obtain⟨v14,hv14,ov14⟩:=oC (x:= .slice A' kl ca') rfl;obtain⟨v15,hv15,ov15⟩:=oC (x:= .slice B' al cb') rfl;rw[<- hv0,<- hv1,<- hv2,<- hv3,<- hv4,<- hv5,<- hv6,<- hv7,<- hv8,<- hv9,<- hv10,<- hv11,<- hv12,<- hv13,<- hv14,<- hv15]at HC;rw[<- hv0]at y0;rw[<- hv1]at y1;rw[<- hv2]at y2;rw[<- hv3]at y3;rw[<- hv4]at y4;rw[<- hv5]at y5;rw[<- hv6]at y6;rw[<- hv7]at y7;rw[<- hv8]at y8;rw[<- hv9]at y9;rw[<- hv10]at y10;rw[<- hv11]at y11;rw[<- hv12]at y12;rw[<- hv13]at y13;rw[<- hv14]at y14;rw[<- hv15]at y15;have HOv:Hid ((#[v0,v1,v2,v3,v4,v5,v6,v7,v8,v9,v10,v11,v12,v13,v14,v15]:Array Value).all (·.oneCell')=true):=hid (by simp[ov0,ov1,ov2,ov3,ov4,ov5,ov6,ov7,ov8,ov9,ov10,ov11,ov12,ov13,ov14,ov15]);clear hv0 ov0 hv1 ov1 hv2 ov2 hv3 ov3 hv4 ov4 hv5 ov5 hv6 ov6 hv7 ov7 hv8 ov8 hv9 ov9 hv10 ov10 hv11 ov11 hv12 ov12 hv13 ov13 hv14 ov14 hv15 ov15;have i1:(0:Int)<=(j:Int):=by omega
   have i2:(j:Int)<(n:Int):=by omega
   have HLT:=hid hlt;have hob':ub<wr.heap.size:=hob;clear hfo hx hd hgx hmx hp hcc hkk haa hjd hhb hkl hal hpl hcl hSS hNM hob;go_wp2_with fail;rw[qf1 wr wr.heap.size rfl v0 v1 v2 v3 v4 v5 v6 v7 v8 v9 v10 v11 v12 v13 v14 v15 HOv.out];go_wp2_with fail;refine (HC _ ((Bel.refl wr).alloc _)).mono ?_;rintro e w3 ⟨rfl,hb3⟩;have HB3:=hid ((HB.alloc _).on hb3);clear hb3 HC y0 y1 y2 y3 y4 y5 y6 y7 y8 y9 y10 y11 y12 y13 y14 y15;cases hb
   ·have hR2:R=([],2):=by rw[HR.out,HRN.out];rfl
    subst hR2;go_wp2_with fail;go_ret2;exact⟨rfl,HB3⟩
   ·have HR':Hid (xs.all dcMay=(xs.drop (j+1)).all dcMay):=hid (by rw[HRN.out];rfl)
    go_wp2_with fail;go_roundw
    case rel=>exact⟨j+1,HLT,by go_num,HR',HB3⟩
    case measure=>exact mS HLT
  ·obtain rfl:j=n:=by omega
   have hall:xs.all dcMay=true:=by rw[HRJ.out,dNn (by rw[<- HL.out];exact lR _)];rfl
   have HR2:Hid (R=wrO ((dsK xs).map Tn.b)):=hid (by rw[HR.out,hall];rfl);have HALL:Hid (∀ x∈xs,dcMay x=true):=hid (List.all_eq_true.1 hall);have HMOK:Hid (∀ x∈xs,x.mok):=hid fun x hx=>by
    obtain⟨b,o,h⟩:=H.mem hx;exact h.mok
   clear hall HRJ HR;obtain⟨F,hF⟩:=nW (dsK xs);have HF:=hid hF;rw[<- hF]at HR2;have HFF:Hid (FitL F/\AllM F):=hid ⟨by rw[hF];exact qeN xs fun x hx=>(HG x hx).2,by rw[hF];exact qaB xs fun x hx=>⟨HALL x hx,HMOK x hx⟩⟩;clear hF;rename World=>w3
   have HB3:=HB;have HH:Hid (RowOf 16 DcAt w3 (OldT w3) A j c xs):=hid (H.bel Qk HB3);have HW4:Hid (Wri (w3.alloc (.cells #[.slice none 0 0] 66)) (w3.heap.size+1) w3.heap.size []):=hid (Wri.new w3);have HB4:Hid (Bel w3 (w3.alloc (.cells #[.slice none 0 0] 66))):=hid ((Bel.refl w3).alloc _);obtain⟨w4,hw4⟩:=nW (w3.alloc (.cells #[.slice none 0 0] 66));rw[<- hw4]at HW4 HB4;have HI:Hid (∃ pre,Ws w3 (w3.heap.size+1) w3.heap.size [] w4 pre w4/\pre++dsK (xs.drop 0)=F):=hid ⟨[],Ws.start HB4 HW4 (by decide),by rw[HF.out];rfl⟩;have HWI:Hid (w4=w3.alloc (.cells #[.slice none 0 0] 66)):=hid hw4;rw[hw4]at HI;clear hw4;go_wp2_with fail;go_loopw [23] (fun i wr=>∃ j2:Nat,j2<=j/\i=.int .i64 (j2:Int)/\Hid (∃ pre,Ws w3 (w3.heap.size+1) w3.heap.size [] w4 pre wr/\pre++dsK (xs.drop j2)=F)) (fun i _=>j-(intOf i).toNat)
   case atStart=>exact⟨0,zL _,rfl,by rw[<- HWI.out]at HI ⊢;exact HI⟩
   case round=>
    obtain⟨j2,hj2,rfl,HR⟩:=hrel;obtain⟨pre,hws,hpre⟩:=HR.out;by_cases hlt:j2<j
    ·obtain⟨ub,uo,eA,hob,hfo⟩:=(HH).2.2 (by omega)
     subst eA;obtain⟨x,hx⟩:∃ x,xs[j2]?=some x:=⟨_,eG (by rw[<- HL.out];exact hlt)⟩
     have hd:=hfo j2 x hx;have hgx:=HG.out x (mGg hx);have hmx:=hd.mok;obtain⟨PA,pc,CA,cc,A',ca',B',cb',hp,hcc,hkk,haa,y0,y1,y2,y3,y4,y5,y6,y7,y8,y9,y10,y11,y12,y13,y14,y15⟩:=hd.cells;replace y0:=(hws.1.cell (p:=⟨ub,_,none⟩) hob).trans y0;replace y1:=(hws.1.cell (p:=⟨ub,_,none⟩) hob).trans y1;replace y2:=(hws.1.cell (p:=⟨ub,_,none⟩) hob).trans y2;replace y3:=(hws.1.cell (p:=⟨ub,_,none⟩) hob).trans y3;replace y4:=(hws.1.cell (p:=⟨ub,_,none⟩) hob).trans y4;replace y5:=(hws.1.cell (p:=⟨ub,_,none⟩) hob).trans y5;replace y6:=(hws.1.cell (p:=⟨ub,_,none⟩) hob).trans y6;replace y7:=(hws.1.cell (p:=⟨ub,_,none⟩) hob).trans y7;replace y8:=(hws.1.cell (p:=⟨ub,_,none⟩) hob).trans y8;replace y9:=(hws.1.cell (p:=⟨ub,_,none⟩) hob).trans y9;replace y10:=(hws.1.cell (p:=⟨ub,_,none⟩) hob).trans y10;replace y11:=(hws.1.cell (p:=⟨ub,_,none⟩) hob).trans y11;replace y12:=(hws.1.cell (p:=⟨ub,_,none⟩) hob).trans y12;replace y13:=(hws.1.cell (p:=⟨ub,_,none⟩) hob).trans y13;replace y14:=(hws.1.cell (p:=⟨ub,_,none⟩) hob).trans y14;replace y15:=(hws.1.cell (p:=⟨ub,_,none⟩) hob).trans y15;obtain⟨kd,nm,q,ps,cs,rc,k,s,nn,p,kids,arms⟩:=x;simp only[]at y0 y1 y2 y3 y4 y5 y6 y7 y8 y9 y10 y11 y12 y13 y14 y15 hp hcc hkk haa;have hdr:=qgD hx;rw[hdr]at hpre;have hmy:=qjy (HALL _ (mGg hx)) hmx hgx.1;have HC:=hid fun r W' h1 h2 h3=>qgm (w3.heap.size+1) w3.heap.size w3 (lR _) kd nm q PA pc ps CA cc cs rc k s nn p A' ca' B' cb' kids arms hp hcc hkk haa ⟨hgx.1.1,hgx.1.2.1,hgx.1.2.2.1,hgx.1.2.2.2⟩ hmy r W' h1 h2 h3;obtain⟨F1,hF1⟩:=nW (dcK ⟨kd,nm,q,ps,cs,rc,k,s,nn,p,kids,arms⟩);rw[<- hF1]at HC hpre;obtain⟨kl,hkl⟩:=nW kids.len;obtain⟨al,hal⟩:=nW arms.len;obtain⟨pl,hpl⟩:=nW ps.length;obtain⟨cl,hcl⟩:=nW cs.length;obtain⟨SS,hSS⟩:=nW (⟨s.toArray⟩:BA);obtain⟨NM,hNM⟩:=nW (⟨nm.toArray⟩:BA);rw[<- hkl,<- hal,<- hpl,<- hcl,<- hSS,<- hNM]at HC;rw[<- hNM]at y1;rw[<- hpl]at y5;rw[<- hcl]at y6;rw[<- hSS]at y9;rw[<- hkl]at y14;rw[<- hal]at y15;obtain⟨v0,hv0,ov0⟩:=oC (x:= .int .u8 kd) rfl;obtain⟨v1,hv1,ov1⟩:=oC (x:= .string NM) rfl;obtain⟨v2,hv2,ov2⟩:=oC (x:= .int .i64 q.a) rfl;obtain⟨v3,hv3,ov3⟩:=oC (x:= .int .i64 q.l) rfl;obtain⟨v4,hv4,ov4⟩:=oC (x:= .int .i64 q.c) rfl;obtain⟨v5,hv5,ov5⟩:=oC (x:= .slice PA pl pc) rfl;obtain⟨v6,hv6,ov6⟩:=oC (x:= .slice CA cl cc) rfl;obtain⟨v7,hv7,ov7⟩:=oC (x:= .bool rc) rfl;obtain⟨v8,hv8,ov8⟩:=oC (x:= .int .u8 k) rfl;obtain⟨v9,hv9,ov9⟩:=oC (x:= .string SS) rfl;obtain⟨v10,hv10,ov10⟩:=oC (x:= .int .i64 nn) rfl;obtain⟨v11,hv11,ov11⟩:=oC (x:= .int .i64 p.a) rfl;obtain⟨v12,hv12,ov12⟩:=oC (x:= .int .i64 p.l) rfl;obtain⟨v13,hv13,ov13⟩:=oC (x:= .int .i64 p.c) rfl;obtain⟨v14,hv14,ov14⟩:=oC (x:= .slice A' kl ca') rfl;obtain⟨v15,hv15,ov15⟩:=oC (x:= .slice B' al cb') rfl;rw[<- hv0,<- hv1,<- hv2,<- hv3,<- hv4,<- hv5,<- hv6,<- hv7,<- hv8,<- hv9,<- hv10,<- hv11,<- hv12,<- hv13,<- hv14,<- hv15]at HC;rw[<- hv0]at y0;rw[<- hv1]at y1;rw[<- hv2]at y2;rw[<- hv3]at y3;rw[<- hv4]at y4;rw[<- hv5]at y5;rw[<- hv6]at y6;rw[<- hv7]at y7;rw[<- hv8]at y8;rw[<- hv9]at y9;rw[<- hv10]at y10;rw[<- hv11]at y11;rw[<- hv12]at y12;rw[<- hv13]at y13;rw[<- hv14]at y14;rw[<- hv15]at y15;have HOv:Hid ((#[v0,v1,v2,v3,v4,v5,v6,v7,v8,v9,v10,v11,v12,v13,v14,v15]:Array Value).all (·.oneCell')=true):=hid (by simp[ov0,ov1,ov2,ov3,ov4,ov5,ov6,ov7,ov8,ov9,ov10,ov11,ov12,ov13,ov14,ov15]);clear hv0 ov0 hv1 ov1 hv2 ov2 hv3 ov3 hv4 ov4 hv5 ov5 hv6 ov6 hv7 ov7 hv8 ov8 hv9 ov9 hv10 ov10 hv11 ov11 hv12 ov12 hv13 ov13 hv14 ov14 hv15 ov15;have i1:(0:Int)<=(j2:Int):=by omega
     have i2:(j2:Int)<(j:Int):=by omega
     have HLT:=hid hlt;have hob':ub<wr.heap.size:=lT hob hws.1.size;have HPRE:=hid hpre;have HS1:=hid (hws.bel ((Bel.refl wr).alloc (.cells #[v0,v1,v2,v3,v4,v5,v6,v7,v8,v9,v10,v11,v12,v13,v14,v15] 52)));clear hfo hx hd hgx hmx hp hcc hkk haa hdr hmy hF1 hkl hal hpl hcl hSS hNM hob hpre hws HR HI;go_wp2_with fail;rw[qf1 wr wr.heap.size rfl v0 v1 v2 v3 v4 v5 v6 v7 v8 v9 v10 v11 v12 v13 v14 v15 HOv.out];go_wp2_with fail;refine (HS1.run fun r h1 h2 h3=>HC r _ h1 h2 h3).mono ?_;rintro e w5 ⟨rfl,hs5,hk5⟩;have HR':Hid (∃ pre,Ws w3 (w3.heap.size+1) w3.heap.size [] w4 pre w5/\pre++dsK (xs.drop (j2+1))=F):=hid ⟨_,hs5,by rw[<- HPRE.out];simp⟩;clear hs5 hk5 HC y0 y1 y2 y3 y4 y5 y6 y7 y8 y9 y10 y11 y12 y13 y14 y15 hob';go_wp2_with fail;go_roundw
     case rel=>exact⟨j2+1,HLT,by go_num,HR'⟩
     case measure=>exact mS HLT
    ·obtain rfl:j2=j:=by omega
     rw[dNn (by rw[<- HL.out];exact lR _)]at hpre;have hpF:pre=F:=by rw[<- hpre];simp[dsK]
     subst hpF;obtain⟨hb5,⟨r,hw5,hr5,hl5⟩,_⟩:=hws;obtain⟨A5,n5,c5,hc5,hcall⟩:=qbV (w0:=w3) (HT.bel (HB3.on hb5)) hw5 hr5 hl5 HFF.1 HFF.2;rw[<- HR2.out]at hcall;have HC5:=hid hcall;have HB5:=hid (HB3.on hb5);have hl5':w3.heap.size<wr.heap.size:=World.block_lt_of_cell? wr _ hc5;clear hb5 hw5 hr5 hl5 hcall hpre HR HI HFF HF HR2;go_wp2_with fail;refine HC5.out.mono ?_;rintro e w6 ⟨rfl,hb6⟩;have HB6:=hid (HB5.on hb6);clear hb6 hc5 hl5';go_wp2_with fail;go_ret2;exact⟨rfl,HB6⟩
theorem blk7(w:World)(o o2 o3 o4 o5 o6 o7:Obj):let W:=((((((w.alloc o).alloc o2).alloc o3).alloc o4).alloc o5).alloc o6).alloc o7
  W.heap[w.heap.size]?=some o/\W.heap[w.heap.size+1]?=some o2/\W.heap[w.heap.size+1+1]?=some o3/\W.heap[w.heap.size+1+1+1]?=some o4/\W.heap[w.heap.size+1+1+1+1]?=some o5/\W.heap[w.heap.size+1+1+1+1+1]?=some o6/\W.heap[w.heap.size+1+1+1+1+1+1]?=some o7:=by
 have hb7:=(Bel.refl ((((((w.alloc o).alloc o2).alloc o3).alloc o4).alloc o5).alloc o6)).alloc o7;obtain⟨h1,h2,h3,h4,h5⟩:=blk5 w o o2 o3 o4 o5;have hb6:=(Bel.refl (((((w.alloc o).alloc o2).alloc o3).alloc o4).alloc o5)).alloc o6;have h6:=blk1 (((((w.alloc o).alloc o2).alloc o3).alloc o4).alloc o5) o6;have h7:=blk1 ((((((w.alloc o).alloc o2).alloc o3).alloc o4).alloc o5).alloc o6) o7;have s6:(((((w.alloc o).alloc o2).alloc o3).alloc o4).alloc o5).heap.size=w.heap.size+1+1+1+1+1:=by simp
 have s7:((((((w.alloc o).alloc o2).alloc o3).alloc o4).alloc o5).alloc o6).heap.size=w.heap.size+1+1+1+1+1+1:=by simp
 rw[s6]at h6;rw[s7]at h7;exact⟨hb7.blk (hb6.blk h1),hb7.blk (hb6.blk h2),hb7.blk (hb6.blk h3),hb7.blk (hb6.blk h4),hb7.blk (hb6.blk h5),hb7.blk h6,h7⟩
theorem qcf{α:Type}{sz:Nat}{At:World->(Nat->Prop)->Nat->Nat->α->Prop}{w:World}{b:Nat}{x:α}(hb:b<w.heap.size)(h:At w (OldT w) b 0 x):RowOf sz At w (OldT w) (some ⟨b,0,none⟩) 1 1 [x]:=
 ⟨rfl,lR _,fun _=>⟨b,0,rfl,hb,fun i y hi=>by
  match i,hi with
  | 0,hi=>
   obtain rfl:x=y:=by simpa using hi
   rw[Nat.zero_mul];exact h
  | i+1,hi=>simp at hi⟩⟩
def kFs:List Fd:=[⟨1,2,[76,105,115,116],0,p00,kLa⟩,⟨2,1,[97],0,p00,.nil⟩]
def kCd:Cd:=⟨[65],p00,kFs⟩
section
variable {w : World} {b : Nat} {t1 t2 t3 t4 t5 t6 : TypeId}
theorem qky(h1:w.heap[b+1]?=some (.cells #[.string ⟨#[97]⟩] t1 (0,0))):RowOf 1 SAt w (OldT w) (some ⟨b+1,0,none⟩) 1 1 [[97]]:=
 qcf (aJ.1 h1).1 (by show w.cell? ⟨b+1,0,none⟩=_;simp[World.cell?,h1])
theorem qks(h2:w.heap[b+1+1]?=some (.cells #[.int .u8 1,.string ⟨#[97]⟩,.int .u8 0,(0:Int),(0:Int),(0:Int),.slice none 0 0] t2 (0,0))):KidsTr w (OldT w) .ty (some ⟨b+1+1,0,none⟩) 1 1 kLa:=by
 refine QF (sh:= .ty) (by intro e;cases e) (kids:= .nil) (arms:= .nil) (A:=none) (c:=0) (B:=none) (bc:=0) (w:=w) (qM w _ .ty) (.inr ⟨.inr rfl,rfl⟩) (Bel.refl w) h2
theorem qki(h2:w.heap[b+1+1]?=some (.cells #[.int .u8 1,.string ⟨#[97]⟩,.int .u8 0,(0:Int),(0:Int),(0:Int),.slice none 0 0] t2 (0,0)))
  (h3:w.heap[b+1+1+1]?=some (.cells #[.int .u8 1,.int .u8 2,.string ⟨#[76,105,115,116]⟩,.int .u8 0,(0:Int),(0:Int),(0:Int),.slice (some ⟨b+1+1,0,none⟩) 1 1,.int .u8 2,.int .u8 1,.string ⟨#[97]⟩,.int .u8 0,(0:Int),(0:Int),(0:Int),.slice none 0 0] t3 (0,0))) :
  RowOf 8 FdAt w (OldT w) (some ⟨b+1+1+1,0,none⟩) 2 2 kFs:=by
 have hl:b+1+1+1<w.heap.size:=(aJ.1 h3).1;have hla:=qks h2;have c:∀ i,w.cell? ⟨b+1+1+1,i,none⟩=(#[Value.int .u8 1,.int .u8 2,.string ⟨#[76,105,115,116]⟩,.int .u8 0,(0:Int),(0:Int),(0:Int),.slice (some ⟨b+1+1,0,none⟩) 1 1,.int .u8 2,.int .u8 1,.string ⟨#[97]⟩,.int .u8 0,(0:Int),(0:Int),(0:Int),.slice none 0 0]:Array Value)[i]?:=fun i=>by simp[World.cell?,h3]
 refine⟨rfl,lR _,fun _=>⟨b+1+1+1,0,rfl,hl,fun i x hi=>?_⟩⟩
 match i,hi with
 | 0,hi=>
  obtain rfl:(⟨1,2,[76,105,115,116],0,p00,kLa⟩:Fd)=x:=by simpa [kFs] using hi
  exact⟨c 0,⟨c 1,c 2,c 3,c 4,c 5,c 6⟩,⟨_,1,c 7,lR _,hla.2.2⟩,.inr ⟨.inr rfl,rfl⟩,trivial⟩
 | 1,hi=>
  obtain rfl:(⟨2,1,[97],0,p00,.nil⟩:Fd)=x:=by simpa [kFs] using hi
  exact⟨c 8,⟨c 9,c 10,c 11,c 12,c 13,c 14⟩,⟨none,0,c 15,lR _,fun h=>absurd h (by decide)⟩,.inr ⟨.inr rfl,rfl⟩,trivial⟩
 | i+2,hi=>simp[kFs]at hi
theorem qkd(hf:RowOf 8 FdAt w (OldT w) (some ⟨b+1+1+1,0,none⟩) 2 2 kFs)
  (h4:w.heap[b+1+1+1+1]?=some (.cells #[.string ⟨#[65]⟩,(0:Int),(0:Int),(0:Int),.slice (some ⟨b+1+1+1,0,none⟩) 2 2] t4 (0,0))) :
  RowOf 5 CdAt w (OldT w) (some ⟨b+1+1+1+1,0,none⟩) 1 1 [kCd]:=by
 have c:∀ i,w.cell? ⟨b+1+1+1+1,i,none⟩=(#[Value.string ⟨#[65]⟩,(0:Int),(0:Int),(0:Int),.slice (some ⟨b+1+1+1,0,none⟩) 2 2]:Array Value)[i]?:=fun i=>by simp[World.cell?,h4]
 exact qcf (aJ.1 h4).1 ⟨c 0,c 1,c 2,c 3,_,2,c 4,hf⟩
theorem qkr(hp:RowOf 1 SAt w (OldT w) (some ⟨b+1,0,none⟩) 1 1 [[97]])(hc:RowOf 5 CdAt w (OldT w) (some ⟨b+1+1+1+1,0,none⟩) 1 1 [kCd])
  (h6:w.heap[b+1+1+1+1+1+1]?=some (.cells #[.int .u8 1,.string ⟨#[84]⟩,(0:Int),(0:Int),(0:Int),.slice (some ⟨b+1,0,none⟩) 1 1,.slice (some ⟨b+1+1+1+1,0,none⟩) 1 1,.bool false,.int .u8 0,.string ⟨#[]⟩,(0:Int),(0:Int),(0:Int),(0:Int),.slice none 0 0,.slice none 0 0] t6 (0,0))) :
  RowOf 16 DcAt w (OldT w) (some ⟨b+1+1+1+1+1+1,0,none⟩) 1 1 [kD]:=by
 have c:∀ i,w.cell? ⟨b+1+1+1+1+1+1,i,none⟩=(#[Value.int .u8 1,.string ⟨#[84]⟩,(0:Int),(0:Int),(0:Int),.slice (some ⟨b+1,0,none⟩) 1 1,.slice (some ⟨b+1+1+1+1,0,none⟩) 1 1,.bool false,.int .u8 0,.string ⟨#[]⟩,(0:Int),(0:Int),(0:Int),(0:Int),.slice none 0 0,.slice none 0 0]:Array Value)[i]?:=fun i=>by simp[World.cell?,h6]
 exact qcf (aJ.1 h6).1 ⟨c 0,c 1,c 2,c 3,c 4,⟨_,1,c 5,hp⟩,⟨_,1,c 6,hc⟩,c 7,⟨c 8,c 9,c 10,c 11,c 12,c 13⟩,⟨none,0,c 14,lR _,fun h=>absurd h (by decide)⟩,.inl ⟨rfl,none,0,c 15,lR _,fun h=>absurd h (by decide)⟩,trivial⟩
end
theorem qgx{w:World}{g:Nat}{t:TypeId}{x0 x1 x2 x3 x4 x5 x6 x7 x8 x9 x10 x11 x12 x13 x14 x15:Value}(h:w.heap[g]?=some (.cells #[x0,x1,x2,x3,x4,x5,x6,x7,x8,x9,x10,x11,x12,x13,x14,x15] t (0,0))) :
  w.cell? ⟨g,0,none⟩=some x0/\w.cell? ⟨g,1,none⟩=some x1/\w.cell? ⟨g,2,none⟩=some x2/\w.cell? ⟨g,3,none⟩=some x3/\w.cell? ⟨g,4,none⟩=some x4/\w.cell? ⟨g,5,none⟩=some x5/\w.cell? ⟨g,6,none⟩=some x6/\w.cell? ⟨g,7,none⟩=some x7/\w.cell? ⟨g,8,none⟩=some x8/\w.cell? ⟨g,9,none⟩=some x9/\w.cell? ⟨g,10,none⟩=some x10/\w.cell? ⟨g,11,none⟩=some x11/\w.cell? ⟨g,12,none⟩=some x12/\w.cell? ⟨g,13,none⟩=some x13/\w.cell? ⟨g,14,none⟩=some x14/\w.cell? ⟨g,15,none⟩=some x15:=by
 simp[World.cell?,h]
theorem qjw:kD.good/\kD.ints:=by
 refine⟨⟨by decide,by decide,by decide,fun c hc=>?_⟩,⟨by decide,fun s hs=>?_,fun c hc=>?_,by simp[Dc.tr,kD,Tr.ints,fitN]⟩⟩
 ·obtain rfl:c=kCd:=by simpa [kD,kCd,kFs] using hc
  refine⟨by decide,fun f hf=>?_⟩;simp only[kCd,kFs,List.mem_cons,List.not_mem_nil,or_false]at hf;rcases hf with rfl | rfl
  ·show (Tr.size kLa)<=_;decide
  ·show (Tr.size .nil)<=_;decide
 ·obtain rfl:s=[97]:=by simpa [kD] using hs
  decide
 ·obtain rfl:c=kCd:=by simpa [kD,kCd,kFs] using hc
  refine⟨by decide,fun f hf=>?_⟩;simp only[kCd,kFs,List.mem_cons,List.not_mem_nil,or_false]at hf;rcases hf with rfl | rfl
  ·simp[Fd.ints,Fd.tr,kLa,Tr.ints,fitN]
  ·simp[Fd.ints,Fd.tr,Tr.ints,fitN]
def kBad:Tr:=tO 5 [] (t1 .nil) (tN [108,101,116] (tO 8 [] (t1 .nil) .nil))
theorem qh9(j:Nat)(hj:j<3):∃ k s kids,kBad.nth j=.nod k s 0 p00 kids .nil .nil/\(Tr.nod k s 0 p00 kids .nil .nil).mayE hEf hPf=false/\(Tr.nod k s 0 p00 kids .nil .nil).ints/\kids.size<=1000:=by
 have h:j=0∨j=1∨j=2:=by omega
 rcases h with rfl | rfl | rfl
 ·exact⟨5,[],t1 .nil,rfl,qkD,by simp[Tr.ints,fitN,t1],by decide⟩
 ·exact⟨1,[108,101,116],.nil,rfl,qkE,by simp[Tr.ints,fitN],by decide⟩
 ·exact⟨8,[],t1 .nil,rfl,qj6,by simp[Tr.ints,fitN,t1],by decide⟩
end Go.Proofs.YtmloadclmjcbbaaGreatDoor.Mu
