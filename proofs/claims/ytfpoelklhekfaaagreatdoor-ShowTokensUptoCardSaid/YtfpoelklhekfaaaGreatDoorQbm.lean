import Derived.Test.YtfpoelklhekfaaaGreatDoorQbk
open Go.Lib (hid)
namespace Go.Proofs.YtfpoelklhekfaaaGreatDoor.Mu
set_option maxHeartbeats 16000000
open Go Go.RowKit Go.Shelf
attribute [local go_sem] Oper.semAt_some
set_option linter.unusedVariables false
set_option maxRecDepth 100000
theorem jU(A:Option Addr)(n c:Nat)(xs:List Dc)(w:World)(hk:RowOf 16 DcAt w (OldT w) A n c xs)(hn:n<=1000000)(hg:∀ x∈xs,x.good/\x.ints)(ht:Tbl w) :
  Calls Tryz.prog 6 #[.slice A n c] w fun e w'=>e=.returned (.tuple #[.string ⟨(tlO xs).1.toArray⟩,.int .i64 (tlO xs).2])/\Bel w w':=by
 have H:=hid hk;have HL:Hid (n=xs.length):=hid hk.1;have HG:=hid hg;have HT:=hid ht;obtain⟨R,hR⟩:∃ R,R=tlO xs:=⟨_,rfl⟩
 have HR:Hid (R=if xs.all dcMay then wrO ((dsK xs).map Tn.b) else ([],2)):=hid (by rw[hR];rfl);rw[<- hR];clear hk hg ht hR;go_enter Tryz.func6,Tryz.ntmps6
 go_wp2_with fail
 go_loopw [11] (fun i wr=>∃ j:Nat,j<=n/\i=.int .i64 (j:Int)/\Hid (xs.all dcMay=(xs.drop j).all dcMay)/\Hid (Bel w wr)) (fun i _=>n-(intOf i).toNat)
 case atStart=>exact⟨0,Nat.zero_le _,rfl,hid rfl,hid (Bel.refl _)⟩
 case round=>
  obtain⟨j,hj,rfl,HRJ,HB⟩:=hrel;by_cases hlt:j<n
  ·obtain⟨ub,uo,eA,hob,hfo⟩:=(H.out.bel zD HB.out).2.2 (by omega)
   subst eA;obtain⟨x,hx⟩:∃ x,xs[j]?=some x:=⟨_,List.getElem?_eq_getElem (by rw[<- HL.out];exact hlt)⟩
   have hd:=hfo j x hx;have hgx:=HG.out x (List.mem_of_getElem? hx);have hmx:=hd.mok;obtain⟨PA,pc,CA,cc,A',ca',B',cb',hp,hcc,hkk,haa,y0,y1,y2,y3,y4,y5,y6,y7,y8,y9,y10,y11,y12,y13,y14,y15⟩:=hd.cells;obtain⟨kd,nm,q,ps,cs,rc,k,s,nn,p,kids,arms⟩:=x;simp only[]at y0 y1 y2 y3 y4 y5 y6 y7 y8 y9 y10 y11 y12 y13 y14 y15 hp hcc hkk haa;have hjd:(xs.drop j).all dcMay=(dcMay ⟨kd,nm,q,ps,cs,rc,k,s,nn,p,kids,arms⟩&&(xs.drop (j+1)).all dcMay):=by
    obtain⟨h1,h2⟩:=List.getElem?_eq_some_iff.1 hx;rw[List.drop_eq_getElem_cons h1,h2,List.all_cons]
   obtain⟨hb,hhb⟩:∃ hb,hb=dcMay ⟨kd,nm,q,ps,cs,rc,k,s,nn,p,kids,arms⟩:=⟨_,rfl⟩
   have HRN:Hid (xs.all dcMay=(hb&&(xs.drop (j+1)).all dcMay)):=hid (by rw[HRJ.out,hjd,hhb]);have HC:Hid (∀ W,Bel wr W->Calls Tryz.prog 18 #[.agg #[.int .u8 kd,.string ⟨nm.toArray⟩,q.a,q.l,q.c,.slice PA ps.length pc,.slice CA cs.length cc,.bool rc,.int .u8 k,.string ⟨s.toArray⟩,nn,p.a,p.l,p.c,.slice A' kids.len ca',.slice B' arms.len cb']] W (qz hb W)):=hid fun W hW=>by
    rw[hhb];exact qaj kd nm q PA pc ps CA cc cs rc k s nn p A' ca' B' cb' kids arms W (hp.bel jz hW) (hcc.bel zp hW) (hkk.bel hW) (haa.bel hW) hgx.1 (HT.out.bel (HB.out.on hW)) hgx.2
   obtain⟨kl,hkl⟩:∃ l,l=kids.len:=⟨_,rfl⟩
   obtain⟨al,hal⟩:∃ l,l=arms.len:=⟨_,rfl⟩
   obtain⟨pl,hpl⟩:∃ l,l=ps.length:=⟨_,rfl⟩
   obtain⟨cl,hcl⟩:∃ l,l=cs.length:=⟨_,rfl⟩
   obtain⟨SS,hSS⟩:∃ S:ByteArray,S=⟨s.toArray⟩:=⟨_,rfl⟩
   obtain⟨NM,hNM⟩:∃ S:ByteArray,S=⟨nm.toArray⟩:=⟨_,rfl⟩
   rw[<- hkl,<- hal,<- hpl,<- hcl,<- hSS,<- hNM]at HC;rw[<- hNM]at y1;rw[<- hpl]at y5;rw[<- hcl]at y6;rw[<- hSS]at y9;rw[<- hkl]at y14;rw[<- hal]at y15;obtain⟨v0,hv0,ov0⟩:=oC (x:= .int .u8 kd) rfl;obtain⟨v1,hv1,ov1⟩:=oC (x:= .string NM) rfl;obtain⟨v2,hv2,ov2⟩:=oC (x:= .int .i64 q.a) rfl;obtain⟨v3,hv3,ov3⟩:=oC (x:= .int .i64 q.l) rfl;obtain⟨v4,hv4,ov4⟩:=oC (x:= .int .i64 q.c) rfl;obtain⟨v5,hv5,ov5⟩:=oC (x:= .slice PA pl pc) rfl;obtain⟨v6,hv6,ov6⟩:=oC (x:= .slice CA cl cc) rfl;obtain⟨v7,hv7,ov7⟩:=oC (x:= .bool rc) rfl;obtain⟨v8,hv8,ov8⟩:=oC (x:= .int .u8 k) rfl;obtain⟨v9,hv9,ov9⟩:=oC (x:= .string SS) rfl;obtain⟨v10,hv10,ov10⟩:=oC (x:= .int .i64 nn) rfl;obtain⟨v11,hv11,ov11⟩:=oC (x:= .int .i64 p.a) rfl;obtain⟨v12,hv12,ov12⟩:=oC (x:= .int .i64 p.l) rfl;obtain⟨v13,hv13,ov13⟩:=oC (x:= .int .i64 p.c) rfl;obtain⟨v14,hv14,ov14⟩:=oC (x:= .slice A' kl ca') rfl;obtain⟨v15,hv15,ov15⟩:=oC (x:= .slice B' al cb') rfl;rw[<- hv0,<- hv1,<- hv2,<- hv3,<- hv4,<- hv5,<- hv6,<- hv7,<- hv8,<- hv9,<- hv10,<- hv11,<- hv12,<- hv13,<- hv14,<- hv15]at HC;rw[<- hv0]at y0;rw[<- hv1]at y1;rw[<- hv2]at y2;rw[<- hv3]at y3;rw[<- hv4]at y4;rw[<- hv5]at y5;rw[<- hv6]at y6;rw[<- hv7]at y7;rw[<- hv8]at y8;rw[<- hv9]at y9;rw[<- hv10]at y10;rw[<- hv11]at y11;rw[<- hv12]at y12;rw[<- hv13]at y13;rw[<- hv14]at y14;rw[<- hv15]at y15;have HOv:Hid ((#[v0,v1,v2,v3,v4,v5,v6,v7,v8,v9,v10,v11,v12,v13,v14,v15]:Array Value).all (·.oneCell')=true):=hid (by simp[ov0,ov1,ov2,ov3,ov4,ov5,ov6,ov7,ov8,ov9,ov10,ov11,ov12,ov13,ov14,ov15]);clear hv0 ov0 hv1 ov1 hv2 ov2 hv3 ov3 hv4 ov4 hv5 ov5 hv6 ov6 hv7 ov7 hv8 ov8 hv9 ov9 hv10 ov10 hv11 ov11 hv12 ov12 hv13 ov13 hv14 ov14 hv15 ov15;have i1:(0:Int)<=(j:Int):=by omega
   have i2:(j:Int)<(n:Int):=by omega
   have HLT:=hid hlt;have hob':ub<wr.heap.size:=hob;clear hfo hx hd hgx hmx hp hcc hkk haa hjd hhb hkl hal hpl hcl hSS hNM hob;go_wp2_with fail
   rw[qeg wr wr.heap.size rfl v0 v1 v2 v3 v4 v5 v6 v7 v8 v9 v10 v11 v12 v13 v14 v15 HOv.out];go_wp2_with fail
   refine (HC.out _ ((Bel.refl wr).alloc _)).mono ?_;rintro e w3 ⟨rfl,hb3⟩;have HB3:=hid ((HB.out.alloc _).on hb3);clear hb3 HC y0 y1 y2 y3 y4 y5 y6 y7 y8 y9 y10 y11 y12 y13 y14 y15;cases hb
   ·have hR2:R=([],2):=by rw[HR.out,HRN.out];rfl
    subst hR2;go_wp2_with fail
    go_ret2
    exact⟨rfl,HB3.out⟩
   ·have HR':Hid (xs.all dcMay=(xs.drop (j+1)).all dcMay):=hid (by rw[HRN.out];rfl)
    go_wp2_with fail
    go_roundw
    case rel=>exact⟨j+1,HLT.out,by go_num,HR',HB3⟩
    case measure=>have:=HLT.out;simp[intOf];omega
  ·obtain rfl:j=n:=by omega
   have hall:xs.all dcMay=true:=by rw[HRJ.out,List.drop_eq_nil_of_le (by rw[<- HL.out];exact Nat.le_refl _)];rfl
   have HR2:Hid (R=wrO ((dsK xs).map Tn.b)):=hid (by rw[HR.out,hall];rfl);have HALL:Hid (∀ x∈xs,dcMay x=true):=hid (List.all_eq_true.1 hall);have HMOK:Hid (∀ x∈xs,x.mok):=hid fun x hx=>by
    obtain⟨b,o,h⟩:=H.out.mem hx;exact h.mok
   clear hall HRJ HR;obtain⟨F,hF⟩:∃ F,F=dsK xs:=⟨_,rfl⟩
   have HF:=hid hF;rw[<- hF]at HR2;have HFF:Hid (FitL F/\AllM F):=hid ⟨by rw[hF];exact qcN xs fun x hx=>(HG.out x hx).2,by rw[hF];exact qac xs fun x hx=>⟨HALL.out x hx,HMOK.out x hx⟩⟩;clear hF;rename World=>w3
   have HB3:=HB;have HH:Hid (RowOf 16 DcAt w3 (OldT w3) A j c xs):=hid (H.out.bel zD HB3.out);have HW4:Hid (Wri (w3.alloc (.cells #[.slice none 0 0] 68)) (w3.heap.size+1) w3.heap.size []):=hid (Wri.new w3);have HB4:Hid (Bel w3 (w3.alloc (.cells #[.slice none 0 0] 68))):=hid ((Bel.refl w3).alloc _);obtain⟨w4,hw4⟩:∃ w4,w4=w3.alloc (.cells #[.slice none 0 0] 68):=⟨_,rfl⟩
   rw[<- hw4]at HW4 HB4;have HI:Hid (∃ pre,Ws w3 (w3.heap.size+1) w3.heap.size [] w4 pre w4/\pre++dsK (xs.drop 0)=F):=hid ⟨[],Ws.start HB4.out HW4.out (by decide),by rw[HF.out];rfl⟩;have HWI:Hid (w4=w3.alloc (.cells #[.slice none 0 0] 68)):=hid hw4;rw[hw4]at HI;clear hw4;go_wp2_with fail
   go_loopw [23] (fun i wr=>∃ j2:Nat,j2<=j/\i=.int .i64 (j2:Int)/\Hid (∃ pre,Ws w3 (w3.heap.size+1) w3.heap.size [] w4 pre wr/\pre++dsK (xs.drop j2)=F)) (fun i _=>j-(intOf i).toNat)
   case atStart=>exact⟨0,Nat.zero_le _,rfl,by rw[<- HWI.out]at HI ⊢;exact HI⟩
   case round=>
    obtain⟨j2,hj2,rfl,HR⟩:=hrel;obtain⟨pre,hws,hpre⟩:=HR.out;by_cases hlt:j2<j
    ·obtain⟨ub,uo,eA,hob,hfo⟩:=(HH.out).2.2 (by omega)
     subst eA;obtain⟨x,hx⟩:∃ x,xs[j2]?=some x:=⟨_,List.getElem?_eq_getElem (by rw[<- HL.out];exact hlt)⟩
     have hd:=hfo j2 x hx;have hgx:=HG.out x (List.mem_of_getElem? hx);have hmx:=hd.mok;obtain⟨PA,pc,CA,cc,A',ca',B',cb',hp,hcc,hkk,haa,y0,y1,y2,y3,y4,y5,y6,y7,y8,y9,y10,y11,y12,y13,y14,y15⟩:=hd.cells;replace y0:=(hws.1.cell (p:=⟨ub,_,none⟩) hob).trans y0
     replace y1:=(hws.1.cell (p:=⟨ub,_,none⟩) hob).trans y1
     replace y2:=(hws.1.cell (p:=⟨ub,_,none⟩) hob).trans y2
     replace y3:=(hws.1.cell (p:=⟨ub,_,none⟩) hob).trans y3
     replace y4:=(hws.1.cell (p:=⟨ub,_,none⟩) hob).trans y4
     replace y5:=(hws.1.cell (p:=⟨ub,_,none⟩) hob).trans y5
     replace y6:=(hws.1.cell (p:=⟨ub,_,none⟩) hob).trans y6
     replace y7:=(hws.1.cell (p:=⟨ub,_,none⟩) hob).trans y7
     replace y8:=(hws.1.cell (p:=⟨ub,_,none⟩) hob).trans y8
     replace y9:=(hws.1.cell (p:=⟨ub,_,none⟩) hob).trans y9
     replace y10:=(hws.1.cell (p:=⟨ub,_,none⟩) hob).trans y10
     replace y11:=(hws.1.cell (p:=⟨ub,_,none⟩) hob).trans y11
     replace y12:=(hws.1.cell (p:=⟨ub,_,none⟩) hob).trans y12
     replace y13:=(hws.1.cell (p:=⟨ub,_,none⟩) hob).trans y13
     replace y14:=(hws.1.cell (p:=⟨ub,_,none⟩) hob).trans y14
     replace y15:=(hws.1.cell (p:=⟨ub,_,none⟩) hob).trans y15
     obtain⟨kd,nm,q,ps,cs,rc,k,s,nn,p,kids,arms⟩:=x;simp only[]at y0 y1 y2 y3 y4 y5 y6 y7 y8 y9 y10 y11 y12 y13 y14 y15 hp hcc hkk haa;have hdr:=qeP hx;rw[hdr]at hpre;have hmy:=qhP (HALL.out _ (List.mem_of_getElem? hx)) hmx hgx.1;have HC:=hid fun r W' h1 h2 h3=>qey (w3.heap.size+1) w3.heap.size w3 (Nat.le_refl _) kd nm q PA pc ps CA cc cs rc k s nn p A' ca' B' cb' kids arms hp hcc hkk haa ⟨hgx.1.1,hgx.1.2.1,hgx.1.2.2.1,hgx.1.2.2.2⟩ hmy r W' h1 h2 h3;obtain⟨F1,hF1⟩:∃ F,F=dcK ⟨kd,nm,q,ps,cs,rc,k,s,nn,p,kids,arms⟩:=⟨_,rfl⟩
     rw[<- hF1]at HC hpre;obtain⟨kl,hkl⟩:∃ l,l=kids.len:=⟨_,rfl⟩
     obtain⟨al,hal⟩:∃ l,l=arms.len:=⟨_,rfl⟩
     obtain⟨pl,hpl⟩:∃ l,l=ps.length:=⟨_,rfl⟩
     obtain⟨cl,hcl⟩:∃ l,l=cs.length:=⟨_,rfl⟩
     obtain⟨SS,hSS⟩:∃ S:ByteArray,S=⟨s.toArray⟩:=⟨_,rfl⟩
     obtain⟨NM,hNM⟩:∃ S:ByteArray,S=⟨nm.toArray⟩:=⟨_,rfl⟩
     rw[<- hkl,<- hal,<- hpl,<- hcl,<- hSS,<- hNM]at HC;rw[<- hNM]at y1;rw[<- hpl]at y5;rw[<- hcl]at y6;rw[<- hSS]at y9;rw[<- hkl]at y14;rw[<- hal]at y15;obtain⟨v0,hv0,ov0⟩:=oC (x:= .int .u8 kd) rfl;obtain⟨v1,hv1,ov1⟩:=oC (x:= .string NM) rfl;obtain⟨v2,hv2,ov2⟩:=oC (x:= .int .i64 q.a) rfl;obtain⟨v3,hv3,ov3⟩:=oC (x:= .int .i64 q.l) rfl;obtain⟨v4,hv4,ov4⟩:=oC (x:= .int .i64 q.c) rfl;obtain⟨v5,hv5,ov5⟩:=oC (x:= .slice PA pl pc) rfl;obtain⟨v6,hv6,ov6⟩:=oC (x:= .slice CA cl cc) rfl;obtain⟨v7,hv7,ov7⟩:=oC (x:= .bool rc) rfl;obtain⟨v8,hv8,ov8⟩:=oC (x:= .int .u8 k) rfl;obtain⟨v9,hv9,ov9⟩:=oC (x:= .string SS) rfl;obtain⟨v10,hv10,ov10⟩:=oC (x:= .int .i64 nn) rfl;obtain⟨v11,hv11,ov11⟩:=oC (x:= .int .i64 p.a) rfl;obtain⟨v12,hv12,ov12⟩:=oC (x:= .int .i64 p.l) rfl;obtain⟨v13,hv13,ov13⟩:=oC (x:= .int .i64 p.c) rfl;obtain⟨v14,hv14,ov14⟩:=oC (x:= .slice A' kl ca') rfl;obtain⟨v15,hv15,ov15⟩:=oC (x:= .slice B' al cb') rfl;rw[<- hv0,<- hv1,<- hv2,<- hv3,<- hv4,<- hv5,<- hv6,<- hv7,<- hv8,<- hv9,<- hv10,<- hv11,<- hv12,<- hv13,<- hv14,<- hv15]at HC;rw[<- hv0]at y0;rw[<- hv1]at y1;rw[<- hv2]at y2;rw[<- hv3]at y3;rw[<- hv4]at y4;rw[<- hv5]at y5;rw[<- hv6]at y6;rw[<- hv7]at y7;rw[<- hv8]at y8;rw[<- hv9]at y9;rw[<- hv10]at y10;rw[<- hv11]at y11;rw[<- hv12]at y12;rw[<- hv13]at y13;rw[<- hv14]at y14;rw[<- hv15]at y15;have HOv:Hid ((#[v0,v1,v2,v3,v4,v5,v6,v7,v8,v9,v10,v11,v12,v13,v14,v15]:Array Value).all (·.oneCell')=true):=hid (by simp[ov0,ov1,ov2,ov3,ov4,ov5,ov6,ov7,ov8,ov9,ov10,ov11,ov12,ov13,ov14,ov15]);clear hv0 ov0 hv1 ov1 hv2 ov2 hv3 ov3 hv4 ov4 hv5 ov5 hv6 ov6 hv7 ov7 hv8 ov8 hv9 ov9 hv10 ov10 hv11 ov11 hv12 ov12 hv13 ov13 hv14 ov14 hv15 ov15;have i1:(0:Int)<=(j2:Int):=by omega
     have i2:(j2:Int)<(j:Int):=by omega
     have HLT:=hid hlt;have hob':ub<wr.heap.size:=Nat.lt_of_lt_of_le hob hws.1.size;have HPRE:=hid hpre;have HS1:=hid (hws.bel ((Bel.refl wr).alloc (.cells #[v0,v1,v2,v3,v4,v5,v6,v7,v8,v9,v10,v11,v12,v13,v14,v15] 59)));clear hfo hx hd hgx hmx hp hcc hkk haa hdr hmy hF1 hkl hal hpl hcl hSS hNM hob hpre hws HR HI;go_wp2_with fail
     rw[qeg wr wr.heap.size rfl v0 v1 v2 v3 v4 v5 v6 v7 v8 v9 v10 v11 v12 v13 v14 v15 HOv.out];go_wp2_with fail
     refine (HS1.out.run fun r h1 h2 h3=>HC.out r _ h1 h2 h3).mono ?_;rintro e w5 ⟨rfl,hs5,hk5⟩;have HR':Hid (∃ pre,Ws w3 (w3.heap.size+1) w3.heap.size [] w4 pre w5/\pre++dsK (xs.drop (j2+1))=F):=hid ⟨_,hs5,by rw[<- HPRE.out];simp⟩;clear hs5 hk5 HC y0 y1 y2 y3 y4 y5 y6 y7 y8 y9 y10 y11 y12 y13 y14 y15 hob';go_wp2_with fail
     go_roundw
     case rel=>exact⟨j2+1,HLT.out,by go_num,HR'⟩
     case measure=>have:=HLT.out;simp[intOf];omega
    ·obtain rfl:j2=j:=by omega
     rw[List.drop_eq_nil_of_le (by rw[<- HL.out];exact Nat.le_refl _)]at hpre;have hpF:pre=F:=by rw[<- hpre];simp[dsK]
     subst hpF;obtain⟨hb5,⟨r,hw5,hr5,hl5⟩,_⟩:=hws;obtain⟨A5,n5,c5,hc5,hcall⟩:=J6 (w0:=w3) (HT.out.bel (HB3.out.on hb5)) hw5 hr5 hl5 HFF.out.1 HFF.out.2;rw[<- HR2.out]at hcall;have HC5:=hid hcall;have HB5:=hid (HB3.out.on hb5);have hl5':w3.heap.size<wr.heap.size:=World.block_lt_of_cell? wr _ hc5;clear hb5 hw5 hr5 hl5 hcall hpre HR HI HFF HF HR2;go_wp2_with fail
     refine HC5.out.mono ?_;rintro e w6 ⟨rfl,hb6⟩;have HB6:=hid (HB5.out.on hb6);clear hb6 hc5 hl5';go_wp2_with fail
     go_ret2
     exact⟨rfl,HB6.out⟩
end Go.Proofs.YtfpoelklhekfaaaGreatDoor.Mu
