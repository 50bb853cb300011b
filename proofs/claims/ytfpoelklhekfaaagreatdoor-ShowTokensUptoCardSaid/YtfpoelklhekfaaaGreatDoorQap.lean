import Derived.Test.YtfpoelklhekfaaaGreatDoorQak
open Go.Lib (hid)
namespace Go.Proofs.YtfpoelklhekfaaaGreatDoor.Mu
set_option maxHeartbeats 8000000
open Go.RowKit Go.Shelf
set_option maxRecDepth 100000
def rdV(xs:List Pn)(i:Nat):Rd->Value
 | .ok t _=>tkV t.k (encs t.x) t.n
 | .err e d=>erV e (((xs[i+d]?).map Pn.p).getD z0)
theorem qc8{g:Nat}{A:Option Addr}{n c:Nat}{xs:List Pn}{k:Nat}(h92:(xs.map Pn.r)[k]?=some 92)(w:World)(h:Rdr w g A n c xs k) :
  Calls Tryz.prog 104 #[.pointer (some ⟨g,0,none⟩)] w fun e w'=>e=.returned (.tuple #[.int .i32 (escV (((xs.map Pn.r).drop (k+1)).headD 0)),.bool (decide (escV (((xs.map Pn.r).drop (k+1)).headD 0)≠0))])/\Bel w w':=by
 obtain⟨y,hy⟩:∃ y,y=((xs.map Pn.r).drop (k+1)).headD 0:=⟨_,rfl⟩
 have hyk:∀ q:Int,q≠0->(decide ((xs.map Pn.r)[k]?=some 92/\(xs.map Pn.r)[k+1]?=some q)=decide (y=q)):=fun q hq=>by
  rw[Bool.eq_iff_iff,decide_eq_true_iff,decide_eq_true_iff,hy];cases e:(xs.map Pn.r)[k+1]? with
  | none=>
   have:(xs.map Pn.r).drop (k+1)=[]:=List.drop_eq_nil_of_le (by simpa using e);rw[this];simp;intro hh;exact hq hh.symm
  | some z=>rw[qo e,List.headD_cons];simp only[h92,Option.some.injEq,true_and]
 have HA:Hid (∀ (q:UInt8) (w:World),q.toNat<128->(q.toNat:Int)≠0->Rdr w g A n c xs k->Calls Tryz.prog 54 #[.pointer (some ⟨g,0,none⟩),.string ⟨#[92,q]⟩] w fun e w'=>e=.returned (.bool (decide (y=(q.toNat:Int))))/\Bel w w'):=hid fun q w hq hq0 hd=>by
  have:=Zx [92,q] (by intro u hu;simp at hu;rcases hu with rfl | rfl;decide;exact hq) (by simp) w hd;rw[show asc [92,q]=[92,(q.toNat:Int)] by rfl,pre2,hyk _ hq0]at this;exact this
 have H:=hid h;rw[<- hy];clear h hyk hy h92;have h1:∀ w,Rdr w g A n c xs k->Calls Tryz.prog 54 #[.pointer (some ⟨g,0,none⟩),.string ⟨#[92,110]⟩] w fun e w'=>e=.returned (.bool (decide (y=110)))/\Bel w w':=fun w hd=>HA.out 110 w (by decide) (by decide) hd;have h2:∀ w,Rdr w g A n c xs k->Calls Tryz.prog 54 #[.pointer (some ⟨g,0,none⟩),.string ⟨#[92,116]⟩] w fun e w'=>e=.returned (.bool (decide (y=116)))/\Bel w w':=fun w hd=>HA.out 116 w (by decide) (by decide) hd;have h3:∀ w,Rdr w g A n c xs k->Calls Tryz.prog 54 #[.pointer (some ⟨g,0,none⟩),.string ⟨#[92,34]⟩] w fun e w'=>e=.returned (.bool (decide (y=34)))/\Bel w w':=fun w hd=>HA.out 34 w (by decide) (by decide) hd;have h4:∀ w,Rdr w g A n c xs k->Calls Tryz.prog 54 #[.pointer (some ⟨g,0,none⟩),.string ⟨#[92,92]⟩] w fun e w'=>e=.returned (.bool (decide (y=92)))/\Bel w w':=fun w hd=>HA.out 92 w (by decide) (by decide) hd;have H1:=hid h1;have H2:=hid h2;have H3:=hid h3;have H4:=hid h4;clear h1 h2 h3 h4 HA;obtain⟨ev,hev⟩:∃ ev,ev=escV y:=⟨_,rfl⟩
 rw[<- hev];have HE:=hid hev;clear hev;go_enter Tryz.func104,Tryz.ntmps104
 go_wp2_with fail
 refine (H1.out _ H.out).mono ?_;rintro e w1 ⟨rfl,hb⟩;have HB1:=hid hb;clear hb;by_cases y1:y=110
 ·rw[decide_eq_true y1]
  have:ev=10:=by rw[HE.out,y1];rfl
  subst this;go_wp2
  refine bodyPost_ret (v:= .tuple #[.int .i32 10,.bool true]) (by simp[results,Tryz.results104,go_sem]) rfl ⟨by simp,HB1.out⟩
 rw[decide_eq_false y1];go_wp2_with fail
 refine (H2.out _ (H.out.bel HB1.out)).mono ?_;rintro e w2 ⟨rfl,hb⟩;have HB2:=hid (HB1.out.on hb);clear hb;by_cases y2:y=116
 ·rw[decide_eq_true y2]
  have:ev=9:=by rw[HE.out,y2];rfl
  subst this;go_wp2
  refine bodyPost_ret (v:= .tuple #[.int .i32 9,.bool true]) (by simp[results,Tryz.results104,go_sem]) rfl ⟨by simp,HB2.out⟩
 rw[decide_eq_false y2];go_wp2_with fail
 refine (H3.out _ (H.out.bel HB2.out)).mono ?_;rintro e w3 ⟨rfl,hb⟩;have HB3:=hid (HB2.out.on hb);clear hb;by_cases y3:y=34
 ·rw[decide_eq_true y3]
  have:ev=34:=by rw[HE.out,y3];rfl
  subst this;go_wp2
  refine bodyPost_ret (v:= .tuple #[.int .i32 34,.bool true]) (by simp[results,Tryz.results104,go_sem]) rfl ⟨by simp,HB3.out⟩
 rw[decide_eq_false y3];go_wp2_with fail
 refine (H4.out _ (H.out.bel HB3.out)).mono ?_;rintro e w4 ⟨rfl,hb⟩;have HB4:=hid (HB3.out.on hb);clear hb;by_cases y4:y=92
 ·rw[decide_eq_true y4]
  have:ev=92:=by rw[HE.out,y4];rfl
  subst this;go_wp2
  refine bodyPost_ret (v:= .tuple #[.int .i32 92,.bool true]) (by simp[results,Tryz.results104,go_sem]) rfl ⟨by simp,HB4.out⟩
 rw[decide_eq_false y4];have:ev=0:=by rw[HE.out];unfold escV;rw[if_neg y1,if_neg y2,if_neg y3,if_neg y4]
 subst this;go_wp2
 refine bodyPost_ret (v:= .tuple #[.int .i32 0,.bool false]) (by simp[results,Tryz.results104,go_sem]) rfl ⟨by simp,HB4.out⟩
theorem Zh{P:Program}{c:Code}{Q:Exit->Act->World->Prop}{a:Act}{w:World}(h:∀ W,W=w->c.wp P Q a W):c.wp P Q a w:=h w rfl
theorem j4{W w5:World}{base:Nat}{e:TypeId}{size:Nat}{V:Value}{n:Nat}{xs:List Value}(hown:W.ownsRow base e size V n xs){o:Obj}(hg:(W.alloc o).grownBy w5 V.ownBlock)(hB:base<=W.heap.size):Below base W w5:=
 Below.grown ((Below.refl base W).alloc hB o) hg (by simp;omega) (fun j hj=>(hown.lt _ hj).1)
theorem qg6(acc:List Int)(d:Nat):quoL [] acc d=.err 102 0:=by rw[quoL]
theorem qib(l acc:List Int)(d:Nat):quoL (34::l) acc d=.ok ⟨4,acc,0⟩ l:=by rw[quoL,if_pos rfl]
theorem qia(l acc:List Int)(d:Nat):quoL (10::l) acc d=.err 102 0:=by rw[quoL,if_neg (by decide),if_pos rfl]
theorem qg5(l acc:List Int)(d:Nat)(h:escV (l.headD 0)=0):quoL (92::l) acc d=.err 100 d:=by rw[quoL,if_neg (by decide),if_neg (by decide),if_pos rfl,if_pos h]
theorem qfn(l acc:List Int)(d:Nat)(h:escV (l.headD 0)≠0):quoL (92::l) acc d=quoL l.tail (acc++[escV (l.headD 0)]) (d+2):=by rw[quoL,if_neg (by decide),if_neg (by decide),if_pos rfl,if_neg h]
theorem qdo(x:Int)(l acc:List Int)(d:Nat)(h1:x≠34)(h2:x≠10)(h3:x≠92):quoL (x::l) acc d=quoL l (acc++[x]) (d+1):=by rw[quoL,if_neg h1,if_neg h2,if_neg h3]
theorem qeU{y:Int}(h:escV y≠0):(y=110∨y=116∨y=34∨y=92)/\cpB (escV y)=true/\(enc (escV y)).length=1:=by
 unfold escV at h ⊢;by_cases h1:y=110
 ·subst h1;decide
 by_cases h2:y=116
 ·subst h2;decide
 by_cases h3:y=34
 ·subst h3;decide
 by_cases h4:y=92
 ·subst h4;decide
 rw[if_neg h1,if_neg h2,if_neg h3,if_neg h4]at h;exact absurd rfl h
theorem qcP{c:Int}(h:cpB c=true):1<=(enc c).length:=by
 have h1:=zO h;have h2:=zv c;omega
theorem qcd{g:Nat}{A:Option Addr}{n c:Nat}{xs:List Pn}{i:Nat}{x:Pn}(hx:xs[i]?=some x)(hcp:AllCp (xs.map Pn.r))(h4:(encs (xs.map Pn.r)).length<=4000)(w:World)(h:Rdr w g A n c xs i) :
  Calls Tryz.prog 58 #[.pointer (some ⟨g,0,none⟩)] w fun e w'=>
   e=.returned (rdV xs i (quoL ((xs.map Pn.r).drop (i+1)) [] 1))/\Kr g w w'/\(∀ t r,quoL ((xs.map Pn.r).drop (i+1)) [] 1=.ok t r->∃ k,r=(xs.map Pn.r).drop k/\i<=k/\Rdr w' g A n c xs k):=by
 obtain⟨L,hL⟩:∃ L,L=xs.map Pn.r:=⟨_,rfl⟩
 obtain⟨R,hR⟩:∃ R,R=quoL (L.drop (i+1)) [] 1:=⟨_,rfl⟩
 have HM:Hid (∀ (w:World) (k:Nat),Rdr w g A n c xs k->Calls Tryz.prog 22 #[.pointer (some ⟨g,0,none⟩)] w fun e w'=>e=.returned (.bool (decide (k<n)))/\Bel w w'):=hid fun w k hk=>QC w hk;have HN:Hid (∀ (w:World) (k:Nat),Rdr w g A n c xs k->Calls Tryz.prog 54 #[.pointer (some ⟨g,0,none⟩),.string ⟨#[10]⟩] w fun e w'=>e=.returned (.bool (decide (L[k]?=some 10)))/\Bel w w'):=hid fun w k hk=>by
  have:=Zx [10] (by decide) (by decide) w hk;rw[<- hL,show asc [10]=[10] by rfl,pre1]at this;exact this
 have HME:Hid (∀ (w:World) (k:Nat),L[k]?=some 92->Rdr w g A n c xs k->Calls Tryz.prog 104 #[.pointer (some ⟨g,0,none⟩)] w fun e w'=>e=.returned (.tuple #[.int .i32 (escV ((L.drop (k+1)).headD 0)),.bool (decide (escV ((L.drop (k+1)).headD 0)≠0))])/\Bel w w'):=hid fun w k h92 hk=>by
  rw[hL]at h92 ⊢;exact qc8 h92 w hk
 have HWR:Hid (∀ (w:World) (j k:Nat) (y:Pn) (ee:Int),xs[k]?=some y->Rdr w g A n c xs j->Calls Tryz.prog 98 #[.pointer (some ⟨g,0,none⟩),ee,k] w fun e w'=>e=.returned (erV ee y.p)/\Bel w w'):=hid fun w j k y ee hy hd=>jZ ee hy w hd;have HTX:Hid (∀ (w:World) (A2:Option Addr) (c2:Nat) (acc:List Int),AllCp acc->(encs acc).length<=4000->RI .i32 w w.heap.size A2 acc.length acc->Calls Tryz.prog 103 #[.int .u8 4,.slice A2 acc.length c2] w fun e w'=>e=.returned (tkV 4 (encs acc) 0)/\Bel w w'):=hid fun w A2 c2 acc ha hl hr=>Qp 4 ha hl w hr;have hln:L.length=n:=by rw[hL,List.length_map,<- h.len]
 have hi:i<n:=by rw[h.len];exact (List.getElem?_eq_some_iff.1 hx).1
 have HAT:Hid (∀ (w:World) (k:Nat),k<n->Rdr w g A n c xs k->∃ b off y,A=some ⟨b,off,none⟩/\xs[k]?=some y/\L[k]?=some y.r/\w.cell? ⟨b,off+k*4,none⟩=some (.int .i32 y.r)):=hid fun w k hk hd=>by
  obtain⟨b,off,y,e1,e2,e3,-⟩:=hd.at_ hk;exact⟨b,off,y,e1,e2,by rw[hL];simp[e2],e3⟩
 have hlast:∀ k,i<k->(encs (L.drop k)).length+1<=4000:=fun k hk=>by
  have e:encs L=encs (L.take k)++encs (L.drop k):=by rw[<- qU,List.take_append_drop]
  have e2:=congrArg List.length e;have hc:AllCp (L.take k):=by rw[hL];exact hcp.take k
  have e3:=qD hc;rw[List.length_append]at e2;rw[List.length_take]at e3;rw[<- hL]at h4;omega
 rw[<- hL,<- hR];rw[<- hL]at hcp;obtain⟨ans,hans⟩:∃ ans,ans=rdV xs i R:=⟨_,rfl⟩
 rw[<- hans];have HANS:=hid hans;have HR:=hid hR;have HCP:=hid hcp;have HLN:=hid hln;have HX:=hid hx;have hsm:=h.small;have hle:=h.le;have H:=hid h;have hglt:=h.lt;have H1:=hid (hlast (i+1) (by omega));clear h hL hR hans hcp hln hx h4 hlast;obtain⟨w8,hw8⟩:∃ w8,w8=w.setCell ⟨g,1,none⟩ (.int .i64 ((i:Int)+1)):=⟨_,rfl⟩
 have hz8:w8.heap.size=w.heap.size:=by rw[hw8];simp
 have hd8:Rdr w8 g A n c xs (i+1):=by rw[hw8];exact H.out.set_ (k:=i+1) (by omega)
 have hk8:Kr g w w8:=by rw[hw8];exact (Kr.refl g w).set_ _ _
 have hb8:Bel w8 ((w8.alloc bxT).alloc bxD):=((Bel.refl w8).alloc _).alloc _;have hs2:((w8.alloc bxT).alloc bxD).heap.size=w.heap.size+2:=by simp[hz8]
 obtain⟨q1,q2⟩:=blk2 w8 bxT bxD;rw[hz8]at q1 q2;have H2:=hid (hd8.bel hb8);obtain⟨w0,hw0⟩:∃ w0,w0=(w8.alloc bxT).alloc bxD:=⟨_,rfl⟩
 have HKW:=hid (hk8.bel hb8);rw[<- hw0]at H2 HKW hs2 q1 q2;rw[hw8]at hw0;have HW0:=hid hw0;have HQ1:=hid q1;have HQ2:=hid q2;have HS2:=hid hs2;clear hb8 q1 q2 hs2 hw0 hw8 hz8 hd8 hk8;go_enter Tryz.func58,Tryz.ntmps58
 obtain⟨c0,c1,f0,f1⟩:=H.out.cells;go_wp2
 go_loopg [5] (n+1) (fun gk v wr=>∃ (k:Nat) (A2:Option Addr) (c2:Nat) (acc:List Int),v=.slice A2 acc.length c2/\Hid (i+1<=k/\k<=n/\n-k<gk)/\Hid (Rdr wr g A n c xs k)/\Hid (wr.ownsRow (w.heap.size+2) 21 1 (.slice A2 acc.length c2) acc.length (acc.map (Value.int .i32)))/\Hid (Kr g w0 wr) ∧
   Hid (R=quoL (L.drop k) acc (k-i))/\Hid (AllCp acc/\(encs acc).length+(encs (L.drop k)).length<=4000))
 case atStart=>
  refine⟨i+1,none,0,[],rfl,hid ⟨Nat.le_refl _,by omega,by omega⟩,by have:=H2;rw[HW0.out]at this;exact this,hid (World.ownsRow_nil _ _ _ _),by have:=hid (Kr.refl g w0);rw[HW0.out]at this ⊢;exact this,hid (by rw[HR.out,show i+1-i=1 by omega]),hid ⟨fun c hc=>by simp at hc,by have:=H1.out;simp[encs];simp[encs]at this;omega⟩⟩
 case round=>
  obtain⟨k,A2,c2,acc,rfl,HJ,HD,HO,HK,HQ,HA⟩:=hrel;have hkk:=HJ.out;have hbs:w.heap.size+2<=wr.heap.size:=by have:=HK.out.size;have:=HS2.out;omega
  by_cases hk:k<n
  ·obtain⟨b,off,y,rfl,hy,hLy,-⟩:=HAT.out wr k hk HD.out
   have HY:=hid hy;have HLY:=hid hLy;have hcy:cpB y.r=true:=HCP.out _ (List.mem_of_getElem? hLy);have hen:(encs (L.drop k)).length=(enc y.r).length+(encs (L.drop (k+1))).length:=by rw[qo hLy,ql,List.length_append]
   have HEN:=hid hen;have HCY:=hid hcy;have hm:∀ w',Rdr w' g (some ⟨b,off,none⟩) n c xs k->Calls Tryz.prog 22 #[.pointer (some ⟨g,0,none⟩)] w' fun e w2=>e=.returned (.bool true)/\Bel w' w2:=fun w' hd=>by have:=HM.out w' k hd;rwa [decide_eq_true hk]at this
   have HMK:=hid hm;have hn:∀ w',Rdr w' g (some ⟨b,off,none⟩) n c xs k->Calls Tryz.prog 54 #[.pointer (some ⟨g,0,none⟩),.string ⟨#[10]⟩] w' fun e w2=>e=.returned (.bool (decide (y.r=10)))/\Bel w' w2:=fun w' hd=>by have:=HN.out w' k hd;simp only[hLy,Option.some.injEq]at this;exact this
   have HNK:=hid hn;clear hm hn hy hLy hcy hen;go_wp2_with fail
   refine (HMK.out _ HD.out).mono ?_;rintro e w1 ⟨rfl,hb⟩;have HD1:=hid (HD.out.bel hb);have HK1:=hid (HK.out.bel hb);have HO1:=hid (qp HO.out hb);have hbs1:=Nat.le_trans hbs hb.size;clear hb;go_wp2_with fail
   refine (HNK.out _ HD1.out).mono ?_;rintro e w2 ⟨rfl,hb⟩;have HD2:=hid (HD1.out.bel hb);have HK2:=hid (HK1.out.bel hb);have HO2:=hid (qp HO1.out hb);have hbs2:=Nat.le_trans hbs1 hb.size;clear hb;by_cases y10:y.r=10
   ·rw[decide_eq_true y10]
    have hre:R=.err 102 0:=by rw[HQ.out,qo HLY.out,y10,qia]
    have HRE:=hid hre;clear hre;have ha:ans=erV 102 x.p:=by rw[HANS.out,HRE.out];simp[rdV,HX.out]
    subst ha;go_wp2_with fail
    refine (HWR.out _ _ i _ 102 HX.out HD2.out).mono ?_;rintro e w3 ⟨rfl,hb⟩;have HD3:=hid (HD2.out.bel hb);have HK3:=hid (HK2.out.bel hb);clear hb;obtain⟨⟨t0,t1,t2,t3,t4,t5⟩,f0,f1,f2,f3,f4,f5⟩:=qk (HK3.out.keep HQ1.out (by omega));obtain⟨d0,d1,d2,d3,g0,g1,g2,g3⟩:=qA (HK3.out.keep HQ2.out (by omega));unfold erV;go_wp2
    refine bodyPost_ret (v:=erV 102 x.p) ?_ rfl ⟨rfl,?_,?_⟩
    ·simp[erV,results,Tryz.results58,go_sem,t0,t1,t2,t3,t4,t5,d0,d1,d2,d3]
    ·have hk:Kr g w w3:=HKW.out.on HK3.out
     repeat (first | with_reducible exact hk | with_reducible refine Kr.setN ?_ (by simp) _)
    ·intro t r htr
     rw[HRE.out]at htr;cases htr
   rw[decide_eq_false y10];obtain⟨c0,c1,f0,f1⟩:=HD2.out.cells;obtain⟨b',off',y',hA',hy',a0,-⟩:=HD2.out.at_ hk;injection hA' with hA'
   injection hA' with hA1 hA2 _
   subst hA1 hA2;obtain rfl:y'=y:=Option.some.inj (hy'.symm.trans HY.out);clear hy';go_wp2_with fail
   go_region
   by_cases y34:y'.r=34
   ·have hre:R=.ok ⟨4,acc,0⟩ (L.drop (k+1)):=by rw[HQ.out,qo HLY.out,y34,qib]
    have HRE:=hid hre;have ha:ans=tkV 4 (encs acc) 0:=by rw[HANS.out,hre];rfl
    subst ha;have hd9:Rdr (w2.drew.setCell ⟨g,1,none⟩ (.int .i64 ((k:Int)+1))) g (some ⟨b,off,none⟩) n c xs (k+1):=(HD2.out.bel ((Bel.refl _).drew)).set_ (k:=k+1) (by omega);have hk9:Kr g w0 (w2.drew.setCell ⟨g,1,none⟩ (.int .i64 ((k:Int)+1))):=(HK2.out.bel ((Bel.refl _).drew)).set_ _ _;have hr9:RI .i32 (w2.drew.setCell ⟨g,1,none⟩ (.int .i64 ((k:Int)+1))) (w2.drew.setCell ⟨g,1,none⟩ (.int .i64 ((k:Int)+1))).heap.size A2 acc.length acc:=RI.of_own (qZ (qp HO2.out ((Bel.refl _).drew)) (by show g<w.heap.size+2;omega) _);have HD9:=hid hd9;have HK9:=hid hk9;have HR9:=hid hr9;clear hre hd9 hk9 hr9;go_wp2_with fail
    refine (HTX.out _ A2 c2 acc HA.out.1 (by have:=HA.out.2;omega) HR9.out).mono ?_;rintro e w3 ⟨rfl,hb⟩;have HD3:=hid (HD9.out.bel hb);have HK3:=hid (HK9.out.bel hb);clear hb c0 c1 f0 f1 a0;obtain⟨⟨t0,t1,t2,t3,t4,t5⟩,f0,f1,f2,f3,f4,f5⟩:=qk (HK3.out.keep HQ1.out (by omega));obtain⟨d0,d1,d2,d3,g0,g1,g2,g3⟩:=qA (HK3.out.keep HQ2.out (by omega));unfold tkV;go_wp2
    refine bodyPost_ret (v:=tkV 4 (encs acc) 0) ?_ rfl ⟨rfl,?_,?_⟩
    ·simp[tkV,results,Tryz.results58,go_sem,t0,t1,t2,t3,t4,t5,d0,d1,d2,d3]
    ·have hk:Kr g w w3:=HKW.out.on HK3.out
     repeat (first | with_reducible exact hk | with_reducible refine Kr.setN ?_ (by simp) _)
    ·intro t r htr
     rw[HRE.out]at htr;injection htr with _ h2;exact⟨k+1,h2.symm,by omega,by
      repeat (first | with_reducible exact HD3.out | with_reducible refine Rdr.setN ?_ (by show g<w.heap.size+_;omega) _ | with_reducible refine Rdr.setN ?_ (by show g<w.heap.size;omega) _)⟩
   by_cases y92:y'.r=92
   ·have hme:∀ w',Rdr w' g (some ⟨b,off,none⟩) n c xs k->Calls Tryz.prog 104 #[.pointer (some ⟨g,0,none⟩)] w' fun e w2=>e=.returned (.tuple #[.int .i32 (escV ((L.drop (k+1)).headD 0)),.bool (decide (escV ((L.drop (k+1)).headD 0)≠0))])/\Bel w' w2:=fun w' hd=>HME.out w' k (by rw[HLY.out,y92]) hd
    obtain⟨z,hz⟩:∃ z,z=(L.drop (k+1)).headD 0:=⟨_,rfl⟩
    rw[<- hz]at hme;have HZ:=hid hz;have HMEK:=hid hme;clear hz hme;go_wp2_with fail
    refine (HMEK.out _ (HD2.out.bel ((Bel.refl _).drew))).mono ?_;rintro e w4 ⟨rfl,hb⟩;have hb9:Bel w2 w4:=((Bel.refl w2).drew).on hb;have HD4:=hid (HD2.out.bel hb9);have HK4:=hid (HK2.out.bel hb9);have HO4:=hid (qp HO2.out hb9);have hbs4:=Nat.le_trans hbs2 hb9.size;clear hb hb9 c0 c1 f0 f1 a0;obtain⟨c0,c1,f0,f1⟩:=HD4.out.cells;by_cases hz0:escV z=0
    ·have hre:R=.err 100 (k-i):=by rw[HQ.out,qo HLY.out,y92,qg5 _ _ _ (by rw[<- HZ.out];exact hz0)]
     have HRE:=hid hre;clear hre;rw[decide_eq_false (by simpa using hz0)];have ha:ans=erV 100 y'.p:=by rw[HANS.out,HRE.out];simp only[rdV,show i+(k-i)=k by omega,HY.out];rfl
     subst ha;go_wp2_with fail
     refine (HWR.out _ _ k _ 100 HY.out HD4.out).mono ?_;rintro e w3 ⟨rfl,hb⟩;have HD3:=hid (HD4.out.bel hb);have HK3:=hid (HK4.out.bel hb);clear hb;clear c0 c1 f0 f1;obtain⟨⟨t0,t1,t2,t3,t4,t5⟩,f0,f1,f2,f3,f4,f5⟩:=qk (HK3.out.keep HQ1.out (by omega));obtain⟨d0,d1,d2,d3,g0,g1,g2,g3⟩:=qA (HK3.out.keep HQ2.out (by omega));unfold erV;go_wp2
     refine bodyPost_ret (v:=erV 100 y'.p) ?_ rfl ⟨rfl,?_,?_⟩
     ·simp[erV,results,Tryz.results58,go_sem,t0,t1,t2,t3,t4,t5,d0,d1,d2,d3]
     ·have hk:Kr g w w3:=HKW.out.on HK3.out
      repeat (first | with_reducible exact hk | with_reducible refine Kr.setN ?_ (by simp) _)
     ·intro t r htr
      rw[HRE.out]at htr;cases htr
    ·rw[decide_eq_true hz0]
     obtain⟨hz1,hz2,hz3⟩:=qeU hz0;have hz4:z≠0:=fun e=>by rw[e]at hz0;exact hz0 (by decide)
     have hk1:k+1<n:=by
      rcases Nat.lt_or_ge (k+1) n with h | h
      ·exact h
      ·exfalso
       have e:L.drop (k+1)=[]:=List.drop_eq_nil_of_le (by rw[HLN.out];exact h);rw[e]at HZ;exact hz4 HZ.out
     have hLz:L[k+1]?=some z:=by
      obtain⟨z',hz'⟩:∃ z',L[k+1]?=some z':=⟨_,List.getElem?_eq_getElem (by rw[HLN.out];exact hk1)⟩
      have:=HZ.out;rw[qo hz',List.headD_cons]at this;rw[hz',this]
     have hre:R=quoL (L.drop (k+2)) (acc++[escV z]) (k+2-i):=by
      rw[HQ.out,qo HLY.out,y92,qfn _ _ _ (by rw[<- HZ.out];exact hz0),<- HZ.out,qo hLz,List.tail_cons,show k-i+2=k+2-i by omega]
     have hac:AllCp (acc++[escV z])/\(encs (acc++[escV z])).length+(encs (L.drop (k+2))).length<=4000:=by
      refine⟨HA.out.1.app fun c hc=>by simp at hc;rw[hc];exact hz2,?_⟩;have h1:=HA.out.2;have h2:=HEN.out;have h3:=qcP HCY.out;have h4:=qcP (HCP.out _ (List.mem_of_getElem? hLz));have h5:(encs (L.drop (k+1))).length=(enc z).length+(encs (L.drop (k+2))).length:=by rw[qo hLz,ql,List.length_append]
      rw[qU,List.length_append,show encs [escV z]=enc (escV z) by simp[encs],hz3];omega
     have HRE:=hid hre;have HAC:=hid hac;obtain⟨ev,hev⟩:∃ ev,ev=escV z:=⟨_,rfl⟩
     rw[<- hev]at HRE HAC ⊢;have hal:acc.length<=4000:=by have:=qD HA.out.1;have:=HA.out.2;omega
     clear hre hac hz0 hz1 hz2 hz3 hLz hev;go_upto_region 16 with fail
     refine Zh ?_;intro W hW;have hfa:Rdr W g (some ⟨b,off,none⟩) n c xs (k+2)/\Kr g w0 W/\W.ownsRow (w.heap.size+2) 21 1 (.slice A2 acc.length c2) acc.length (acc.map (Value.int .i32)):=by
      rw[hW];first | exact⟨HD4.out.set_ (k:=k+2) (by omega),HK4.out.set_ _ _,qZ HO4.out (by show g<w.heap.size+2;omega) _⟩ | exact⟨(HD4.out.set_ (k:=k+1) (by omega)).set_ (k:=k+2) (by omega),(HK4.out.set_ _ _).set_ _ _,qZ (qZ HO4.out (by show g<w.heap.size+2;omega) _) (by show g<w.heap.size+2;omega) _⟩
     clear hW;have hbW:w.heap.size+2<=W.heap.size:=by have:=hfa.2.1.size;have:=HS2.out;omega
     have HD9:=hid hfa.1;have HBW:=hid hbW;have HAL:=hid hal;have HK9:=hid hfa.2.1;have HO9:=hid hfa.2.2;clear hfa c0 c1 f0 f1;go_wp2_with (at_builtin;refine qr rfl _ _ 169 rfl (w.heap.size+2) 21 _ 1 4 Tryz.underlying169 QO rfl (by decide) (by decide) A2 acc.length c2 _ rfl (HO9.out.alloc _) W.heap.size [.int .i32 ev] rfl rfl (by exact qE W (.int .i32 ev) _) (by simp[Value.oneCell']) (Nat.le_trans HAL.out (by decide)) (Nat.le_trans HBW.out (by simp)) ?_;intro A5 c5 w5 hown5 hg5;(have HO5:=hid hown5);(have HG5:=hid hg5);clear hown5 hg5)
     have HB5:=hid (j4 HO9.out HG5.out hbW);have HD5:=hid (HD9.out.below_ HB5.out (by omega));have HK5:=hid (HK9.out.below_ HB5.out (by have:=HS2.out;omega));go_roundg (gk-1)
     case rel=>exact⟨(k+2),A5,c5,acc++[ev],by simp,hid ⟨by omega,by omega,by omega⟩,HD5,hid (by rw[List.map_append,List.length_append];exact HO5.out),HK5,HRE,HAC⟩
     case measure=>omega
   ·have hre:R=quoL (L.drop (k+1)) (acc++[y'.r]) (k+1-i):=by
     rw[HQ.out,qo HLY.out,qdo _ _ _ _ y34 y10 y92,show k-i+1=k+1-i by omega]
    have hac:AllCp (acc++[y'.r])/\(encs (acc++[y'.r])).length+(encs (L.drop (k+1))).length<=4000:=by
     refine⟨HA.out.1.app fun c hc=>by simp at hc;rw[hc];exact HCY.out,?_⟩;have h1:=HA.out.2;have h2:=HEN.out;rw[qU,List.length_append,show encs [y'.r]=enc y'.r by simp[encs]];omega
    have HRE:=hid hre;have HAC:=hid hac;have hal:acc.length<=4000:=by have:=qD HA.out.1;have:=HA.out.2;omega
    clear hre hac;go_upto_region 16 with fail
    refine Zh ?_;intro W hW;have hfa:Rdr W g (some ⟨b,off,none⟩) n c xs (k+1)/\Kr g w0 W/\W.ownsRow (w.heap.size+2) 21 1 (.slice A2 acc.length c2) acc.length (acc.map (Value.int .i32)):=by
     rw[hW];exact⟨(HD2.out.bel ((Bel.refl _).drew)).set_ (k:=k+1) (by omega),(HK2.out.bel ((Bel.refl _).drew)).set_ _ _,qZ (qp HO2.out ((Bel.refl _).drew)) (by show g<w.heap.size+2;omega) _⟩
    clear hW;have hbW:w.heap.size+2<=W.heap.size:=by have:=hfa.2.1.size;have:=HS2.out;omega
    have HD9:=hid hfa.1;have HBW:=hid hbW;have HAL:=hid hal;have HK9:=hid hfa.2.1;have HO9:=hid hfa.2.2;clear hfa c0 c1 f0 f1 a0;go_wp2_with (at_builtin;refine qr rfl _ _ 169 rfl (w.heap.size+2) 21 _ 1 4 Tryz.underlying169 QO rfl (by decide) (by decide) A2 acc.length c2 _ rfl (HO9.out.alloc _) W.heap.size [.int .i32 y'.r] rfl rfl (by exact qE W (.int .i32 y'.r) _) (by simp[Value.oneCell']) (Nat.le_trans HAL.out (by decide)) (Nat.le_trans HBW.out (by simp)) ?_;intro A5 c5 w5 hown5 hg5;(have HO5:=hid hown5);(have HG5:=hid hg5);clear hown5 hg5)
    have HB5:=hid (j4 HO9.out HG5.out hbW);have HD5:=hid (HD9.out.below_ HB5.out (by omega));have HK5:=hid (HK9.out.below_ HB5.out (by have:=HS2.out;omega));go_roundg (gk-1)
    case rel=>exact⟨(k+1),A5,c5,acc++[y'.r],by simp,hid ⟨by omega,by omega,by omega⟩,HD5,hid (by rw[List.map_append,List.length_append];exact HO5.out),HK5,HRE,HAC⟩
    case measure=>omega
  ·have hkn:k=n:=by omega
   subst hkn;have hm:∀ w',Rdr w' g A k c xs k->Calls Tryz.prog 22 #[.pointer (some ⟨g,0,none⟩)] w' fun e w2=>e=.returned (.bool false)/\Bel w' w2:=fun w' hd=>by have:=HM.out w' k hd;rwa [decide_eq_false hk]at this
   have HMK:=hid hm;have hre:R=.err 102 0:=by rw[HQ.out,List.drop_eq_nil_of_le (by rw[HLN.out];exact Nat.le_refl _),qg6]
   have HRE:=hid hre;clear hm hre;go_wp2_with fail
   refine (HMK.out _ HD.out).mono ?_;rintro e w2 ⟨rfl,hb⟩;have HD2:=hid (HD.out.bel hb);have HK2:=hid (HK.out.bel hb);clear hb;have ha:ans=erV 102 x.p:=by rw[HANS.out,HRE.out];simp[rdV,HX.out]
   subst ha;go_wp2_with fail
   refine (HWR.out _ _ i _ 102 HX.out HD2.out).mono ?_;rintro e w3 ⟨rfl,hb⟩;have HD3:=hid (HD2.out.bel hb);have HK3:=hid (HK2.out.bel hb);clear hb;obtain⟨⟨t0,t1,t2,t3,t4,t5⟩,f0,f1,f2,f3,f4,f5⟩:=qk (HK3.out.keep HQ1.out (by omega));obtain⟨d0,d1,d2,d3,g0,g1,g2,g3⟩:=qA (HK3.out.keep HQ2.out (by omega));unfold erV;go_wp2
   refine bodyPost_ret (v:=erV 102 x.p) ?_ rfl ⟨rfl,?_,?_⟩
   ·simp[erV,results,Tryz.results58,go_sem,t0,t1,t2,t3,t4,t5,d0,d1,d2,d3]
   ·have hk:Kr g w w3:=HKW.out.on HK3.out
    repeat (first | with_reducible exact hk | with_reducible refine Kr.setN ?_ (by simp) _)
   ·intro t r htr
    rw[HRE.out]at htr;cases htr
def lngS(l acc s:List Int):List Int:=if acc.length<s.length/\s.isPrefixOf l=true then s else acc
def lng(l:List Int)(ss:List (List Int)):List Int:=ss.foldl (lngS l) []
theorem qfa(l:List Int)(ss:List (List Int))(s:List Int):lng l (ss++[s])=lngS l (lng l ss) s:=by simp[lng]
theorem qc4(l:List Int):∀ (ss done:List (List Int)) (acc:List Int),((acc=[]∨(acc∈done/\acc <+: l))/\∀ s∈done,s <+: l->s.length<=acc.length) →
  (ss.foldl (lngS l) acc=[]∨(ss.foldl (lngS l) acc∈done++ss/\ss.foldl (lngS l) acc <+: l))/\∀ s∈done++ss,s <+: l->s.length<=(ss.foldl (lngS l) acc).length
 | [],done,acc,h=>by simpa using h
 | s::ss,done,acc,⟨h1,h2⟩=>by
  rw[List.foldl_cons,show done++s::ss=(done++[s])++ss by simp];refine qc4 l ss (done++[s]) _ ?_;unfold lngS;split
  ·rename_i h
   refine⟨.inr ⟨by simp,List.isPrefixOf_iff_prefix.1 h.2⟩,fun t ht hp=>?_⟩;rcases List.mem_append.1 ht with ht | ht
   ·have:=h2 t ht hp;omega
   ·simp at ht;rw[ht];exact Nat.le_refl _
  ·rename_i h
   refine⟨h1.imp id fun h=>⟨by simp[h.1],h.2⟩,fun t ht hp=>?_⟩;rcases List.mem_append.1 ht with ht | ht
   ·exact h2 t ht hp
   ·simp at ht
    rw[ht]at hp ⊢;rcases Nat.lt_or_ge acc.length s.length with hl | hl
    ·exact absurd ⟨hl,List.isPrefixOf_iff_prefix.2 hp⟩ h
    ·exact hl
theorem QR(l:List Int)(ss:List (List Int)):(lng l ss=[]∨(lng l ss∈ss/\lng l ss <+: l))/\∀ s∈ss,s <+: l->s.length<=(lng l ss).length:=by
 have:=qc4 l ss [] [] ⟨.inl rfl,by simp⟩;simpa [lng] using this
theorem QG:∀ s∈signsL,1<=s.length/\s.length<=3:=by decide +kernel
theorem qfs(l:List Int):Qs l=if lng l signsL=[] then .err 100 0 else .ok ⟨5,lng l signsL,0⟩ (l.drop (lng l signsL).length):=by
 obtain⟨h1,h2⟩:=QR l signsL;obtain⟨m,hm⟩:∃ m,m=lng l signsL:=⟨_,rfl⟩
 rw[<- hm]at h1 h2 ⊢;have hge:∀ k,1<=k->k<=l.length->l.take k∈signsL->k<=m.length:=fun k _ hk hs=>by
  have:=h2 _ hs (List.take_prefix k l);rwa [List.length_take,Nat.min_eq_left hk]at this
 have hle:m≠[]->m∈signsL/\m=l.take m.length/\m.length<=l.length/\1<=m.length/\m.length<=3:=fun hne=>by
  rcases h1 with h1 | ⟨h1,h3⟩
  ·exact absurd h1 hne
  ·exact⟨h1,List.prefix_iff_eq_take.1 h3,h3.length_le,(QG m h1).1,(QG m h1).2⟩
 have hm0:m.length<=3:=by
  rcases h1 with h1 | ⟨h1,_⟩
  ·rw[h1];simp
  ·exact (QG m h1).2
 unfold Qs;by_cases c3:3<=l.length/\l.take 3∈signsL
 ·rw[if_pos c3]
  have hk:=hge 3 (by omega) c3.1 c3.2;have hne:m≠[]:=fun e=>by rw[e]at hk;simp at hk
  have hl3:m.length=3:=by omega
  have:=(hle hne).2.1;rw[hl3]at this;rw[if_neg hne,hl3,this]
 rw[if_neg c3];have n3:m.length≠3:=fun e=>by
  have hne:m≠[]:=fun e2=>by rw[e2]at e;simp at e
  obtain⟨a,b,d,_⟩:=hle hne;rw[e]at b d;exact c3 ⟨d,by rw[<- b];exact a⟩
 by_cases c2:2<=l.length/\l.take 2∈signsL
 ·rw[if_pos c2]
  have hk:=hge 2 (by omega) c2.1 c2.2;have hne:m≠[]:=fun e=>by rw[e]at hk;simp at hk
  have hl3:m.length=2:=by omega
  have:=(hle hne).2.1;rw[hl3]at this;rw[if_neg hne,hl3,this]
 rw[if_neg c2];have n2:m.length≠2:=fun e=>by
  have hne:m≠[]:=fun e2=>by rw[e2]at e;simp at e
  obtain⟨a,b,d,_⟩:=hle hne;rw[e]at b d;exact c2 ⟨d,by rw[<- b];exact a⟩
 by_cases c1:1<=l.length/\l.take 1∈signsL
 ·rw[if_pos c1]
  have hk:=hge 1 (by omega) c1.1 c1.2;have hne:m≠[]:=fun e=>by rw[e]at hk;simp at hk
  have hl3:m.length=1:=by omega
  have:=(hle hne).2.1;rw[hl3]at this;rw[if_neg hne,hl3,this]
 rw[if_neg c1];have n1:m.length≠1:=fun e=>by
  have hne:m≠[]:=fun e2=>by rw[e2]at e;simp at e
  obtain⟨a,b,d,_⟩:=hle hne;rw[e]at b d;exact c1 ⟨d,by rw[<- b];exact a⟩
 rw[if_pos (List.eq_nil_of_length_eq_zero (by omega))]
theorem qgR(l:List Int)(j:Nat):∀ c∈lng l (signsL.take j),0<=c/\c<128:=fun c hc=>by
 rcases (QR l (signsL.take j)).1 with h | ⟨h,_⟩
 ·rw[h]at hc;simp at hc
 ·exact zX _ (List.mem_of_mem_take h) c hc
theorem ZX(l:List Int):(byt l).length=l.length:=by simp[byt]
theorem qgl(l:List Int)(h:∀ c∈l,0<=c/\c<128):∀ u∈byt l,u.toNat<128:=fun u hu=>by
 obtain⟨c,hc,rfl⟩:=List.mem_map.1 hu;have:=h c hc;rw[show (UInt8.ofNat c.toNat).toNat=c.toNat % 256 by rfl];omega
theorem qfr{g:Nat}{A:Option Addr}{n c:Nat}{xs:List Pn}{i:Nat}{x:Pn}(hx:xs[i]?=some x)(w:World)(h:Rdr w g A n c xs i) :
  Calls Tryz.prog 59 #[.pointer (some ⟨g,0,none⟩)] w fun e w'=>
   e=.returned (rdV xs i (Qs ((xs.map Pn.r).drop i)))/\Kr g w w'/\(∀ t r,Qs ((xs.map Pn.r).drop i)=.ok t r->∃ k,r=(xs.map Pn.r).drop k/\i<=k/\Rdr w' g A n c xs k):=by
 obtain⟨L,hL⟩:∃ L,L=xs.map Pn.r:=⟨_,rfl⟩
 obtain⟨R,hR⟩:∃ R,R=Qs (L.drop i):=⟨_,rfl⟩
 have HSI:Hid (∀ w,Calls Tryz.prog 105 #[] w fun e w'=>(∃ A,e=.returned (.slice A 22 22)/\RL w' w'.heap.size A 22 jp)/\Bel w w'):=hid qd3;have HAT:Hid (∀ (w:World) (s:List Int),s∈signsL->Rdr w g A n c xs i->Calls Tryz.prog 54 #[.pointer (some ⟨g,0,none⟩),.string ⟨(byt s).toArray⟩] w fun e w'=>e=.returned (.bool (s.isPrefixOf (L.drop i)))/\Bel w w'):=hid fun w s hs hd=>by
  have:=Zx (byt s) (qgl s (zX s hs)) (by rw[ZX];have:=(QG s hs).2;omega) w hd;rwa [J9 (zX s hs),<- hL]at this
 have HWR:Hid (∀ (w:World),Rdr w g A n c xs i->Calls Tryz.prog 98 #[.pointer (some ⟨g,0,none⟩),.int .i64 100,i] w fun e w'=>e=.returned (erV 100 x.p)/\Bel w w'):=hid fun w hd=>jZ 100 hx w hd;have hln:L.length=n:=by rw[hL,List.length_map,<- h.len]
 rw[<- hL,<- hR];obtain⟨ans,hans⟩:∃ ans,ans=rdV xs i R:=⟨_,rfl⟩
 rw[<- hans];have HANS:=hid hans;rw[qfs]at hR;have HR:=hid hR;have HLN:=hid hln;have HX:=hid hx;have hsm:=h.small;have hle:=h.le;have H:=hid h;have hglt:=h.lt;clear h hL hR hans hln hx;have hb2:Bel w ((w.alloc bxT).alloc bxD):=((Bel.refl w).alloc _).alloc _;have hs2:((w.alloc bxT).alloc bxD).heap.size=w.heap.size+2:=by simp
 obtain⟨q1,q2⟩:=blk2 w bxT bxD;have H2:=hid (H.out.bel hb2);obtain⟨w0,hw0⟩:∃ w0,w0=(w.alloc bxT).alloc bxD:=⟨_,rfl⟩
 have HW0:=hid hw0;rw[<- hw0]at H2 hb2 hs2 q1 q2;have HBB:=hid hb2;have HQ1:=hid q1;have HQ2:=hid q2;have HS2:=hid hs2;clear hb2 q1 q2 hs2;go_enter Tryz.func59,Tryz.ntmps59
 go_wp2_with fail
 refine (HSI.out _).mono ?_;rintro e w1 ⟨⟨A1,rfl,hrl⟩,hb⟩;have hb1:Bel w0 w1:=by rw[HW0.out];exact hb
 have HB1:=hid hb1;have HRL:=hid hrl;have HD1:=hid (H2.out.bel hb1);clear hb hb1 hrl;go_wp2_with fail
 go_loopg [4,9] 23 (fun gk v u wr=>∃ (j:Nat),v=.string ⟨(byt (lng (L.drop i) (signsL.take j))).toArray⟩/\u=.int .i64 j/\Hid (j<=22/\22-j<gk)/\Hid (Bel w1 wr))
 case atStart=>exact⟨0,rfl,rfl,hid ⟨by omega,by omega⟩,hid (Bel.refl _)⟩
 case round=>
  obtain⟨j,rfl,rfl,HJ,HB⟩:=hrel;have hjj:=HJ.out;have HD:=hid (HD1.out.bel HB.out);obtain⟨m,hm⟩:∃ m,m=lng (L.drop i) (signsL.take j):=⟨_,rfl⟩
  rw[<- hm];have HMM:=hid hm;clear hm;have hbl:(byt m).length=m.length:=ZX m;by_cases hj:j<22
  ·obtain⟨s,hs⟩:∃ s,signsL[j]?=some s:=⟨_,List.getElem?_eq_getElem (by exact hj)⟩
   have hss:s∈signsL:=List.mem_of_getElem? hs;obtain⟨-,hrl2⟩:=HRL.out.bel HB.out;obtain⟨b1,o1,rfl,hb1,hc1⟩:=hrl2 (by omega);have hcj:=hc1 j (byt s) (by unfold jp;rw[List.getElem?_map,hs];rfl);have hnx:lng (L.drop i) (signsL.take (j+1))=lngS (L.drop i) m s:=by
    obtain⟨hl,e⟩:=List.getElem?_eq_some_iff.1 hs;rw[List.take_succ_eq_append_getElem hl,e,qfa,HMM.out]
   have HNX:=hid hnx;have hsl:(byt s).length=s.length:=ZX s;have HA2:=hid (HAT.out _ s hss HD.out);clear hc1 hnx hs;by_cases hlt:m.length<s.length
   ·have hltb:(m.length:Int)<(s.length:Int):=by omega
    go_wp2_with fail
    refine (HA2.out).mono ?_;rintro e w2 ⟨rfl,hb⟩;have HB2:=hid (HB.out.on hb);clear hb;by_cases hpre:s.isPrefixOf (L.drop i)=true
    ·have hl2:lng (L.drop i) (signsL.take (j+1))=s:=by rw[HNX.out,lngS,if_pos ⟨hlt,hpre⟩]
     rw[hpre];go_wp2
     go_roundg (gk-1)
     case rel=>exact⟨j+1,by rw[hl2],rfl,hid ⟨by omega,by omega⟩,HB2⟩
     case measure=>omega
    ·have hl2:lng (L.drop i) (signsL.take (j+1))=m:=by rw[HNX.out,lngS,if_neg (fun h=>hpre h.2)]
     have hpf:s.isPrefixOf (L.drop i)=false:=Bool.eq_false_iff.2 hpre;rw[hpf];go_wp2
     go_roundg (gk-1)
     case rel=>exact⟨j+1,by rw[hl2],rfl,hid ⟨by omega,by omega⟩,HB2⟩
     case measure=>omega
   ·have hltb:¬ (m.length:Int)<(s.length:Int):=by omega
    have hl2:lng (L.drop i) (signsL.take (j+1))=m:=by rw[HNX.out,lngS,if_neg (fun h=>hlt h.1)]
    go_wp2
    go_roundg (gk-1)
    case rel=>exact⟨j+1,by rw[hl2],rfl,hid ⟨by omega,by omega⟩,HB⟩
    case measure=>omega
  ·have hj22:j=22:=by omega
   have hmm:m=lng (L.drop i) signsL:=by rw[HMM.out,hj22];rfl
   have hk3:Kr g w0 wr:=Kr.of_bel (HB1.out.on HB.out);have HK3':=hid hk3;have HBW:=hid (HBB.out.on (HB1.out.on HB.out));have hpm:=(QR (L.drop i) signsL).1;rw[<- hmm]at hpm;have hreq:R=if m=[] then .err 100 0 else .ok ⟨5,m,0⟩ (L.drop (i+m.length)):=by rw[HR.out,<- hmm,List.drop_drop]
   have hlow:∀ c∈m,0<=c/\c<128:=by rw[HMM.out];exact qgR _ _
   clear hk3;by_cases hm0:m=[]
   ·have hre:R=.err 100 0:=by rw[hreq,if_pos hm0]
    have HRE:=hid hre;have ha:ans=erV 100 x.p:=by rw[HANS.out,hre];simp[rdV,HX.out]
    subst ha;have hz:(⟨(byt m).toArray⟩:ByteArray)=⟨#[]⟩:=by rw[hm0];rfl
    rw[hz];clear hre hreq hpm hlow hmm hbl hz;obtain⟨c0,c1,f0,f1⟩:=HD.out.cells;go_wp2_with fail
    refine (HWR.out _ HD.out).mono ?_;rintro e w3 ⟨rfl,hb⟩;have HK3:=hid (HK3'.out.bel hb);clear hb c0 c1 f0 f1;obtain⟨⟨t0,t1,t2,t3,t4,t5⟩,f0,f1,f2,f3,f4,f5⟩:=qk (HK3.out.keep HQ1.out (by omega));obtain⟨d0,d1,d2,d3,g0,g1,g2,g3⟩:=qA (HK3.out.keep HQ2.out (by omega));unfold erV;go_wp2
    refine bodyPost_ret (v:=erV 100 x.p) ?_ rfl ⟨rfl,?_,?_⟩
    ·simp[erV,results,Tryz.results59,go_sem,t0,t1,t2,t3,t4,t5,d0,d1,d2,d3]
    ·have hk:Kr g w w3:=(Kr.of_bel HBB.out).on HK3.out
     repeat (first | with_reducible exact hk | with_reducible refine Kr.setN ?_ (by simp) _)
    ·intro t r htr
     rw[HRE.out]at htr;cases htr
   ·have hre:R=.ok ⟨5,m,0⟩ (L.drop (i+m.length)):=by rw[hreq,if_neg hm0]
    have HRE:=hid hre;have ha:ans=tkV 5 (byt m) 0:=by rw[HANS.out,hre];simp only[rdV];rw[zq hlow]
    subst ha;have hin:i+m.length<=n:=by
     rcases hpm with h | ⟨_,h⟩
     ·exact absurd h hm0
     ·have:=h.length_le
      rw[List.length_drop,HLN.out]at this;omega
    have hie:(byt m).isEmpty=false:=by
     rw[Bool.eq_false_iff];intro e;have e2:byt m=[]:=by simpa using e
     have:=congrArg List.length e2;rw[ZX]at this;exact hm0 (List.eq_nil_of_length_eq_zero this)
    clear hre hreq hpm hlow hmm;obtain⟨c0,c1,f0,f1⟩:=HD.out.cells;obtain⟨⟨t0,t1,t2,t3,t4,t5⟩,f2,f3,f4,f5,f6,f7⟩:=qk (HK3'.out.keep HQ1.out (by omega));obtain⟨d0,d1,d2,d3,g0,g1,g2,g3⟩:=qA (HK3'.out.keep HQ2.out (by omega));have hng:g≠w.heap.size:=by omega
    have hng1:g≠w.heap.size+1:=by omega
    go_wp2
    refine bodyPost_ret (v:=tkV 5 (byt m) 0) ?_ rfl ⟨rfl,?_,?_⟩
    ·simp[tkV,results,Tryz.results59,go_sem, *]
    ·have hk:Kr g w wr:=Kr.of_bel HBW.out
     repeat (first | with_reducible exact hk | with_reducible refine Kr.set_ ?_ _ _ | with_reducible refine Kr.setN ?_ (by simp) _)
    ·intro t r htr
     rw[HRE.out]at htr;injection htr with _ h2
     have hq:((i:Int)+(m.length:Int))=((i+m.length:Nat):Int):=by omega
     refine⟨i+m.length,h2.symm,by omega,?_⟩;first
      | (rw[hq];repeat (first | with_reducible exact HD.out.set_ hin | with_reducible refine Rdr.setN ?_ (by show g<w.heap.size+_;omega) _ | with_reducible refine Rdr.setN ?_ (by show g<w.heap.size;omega) _))
      | trace_state
end Go.Proofs.YtfpoelklhekfaaaGreatDoor.Mu
