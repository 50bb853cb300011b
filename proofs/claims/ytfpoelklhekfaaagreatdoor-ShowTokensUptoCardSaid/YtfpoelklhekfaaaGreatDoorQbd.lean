import Derived.Test.YtfpoelklhekfaaaGreatDoorQat
import Derived.Test.YtfpoelklhekfaaaGreatDoorQba
import Derived.Test.YtfpoelklhekfaaaGreatDoorQbc
open Go.Lib (hid)
namespace Go.Proofs.YtfpoelklhekfaaaGreatDoor.Mu
open Go Go.RowKit Go.Shelf
attribute [local go_sem] Oper.semAt_some
set_option linter.unusedVariables false
set_option maxRecDepth 100000
theorem qin{w:World}{g:Nat}{t:TypeId}{x0 x1 x2 x3 x4 x5 x6 x7 x8 x9 x10 x11 x12 x13 x14 x15:Value}(h:w.heap[g]?=some (.cells #[x0,x1,x2,x3,x4,x5,x6,x7,x8,x9,x10,x11,x12,x13,x14,x15] t (0,0))) :
  w.cell? ⟨g,0,none⟩=some x0/\w.cell? ⟨g,6,none⟩=some x6:=by
 simp[World.cell?,h]
set_option maxHeartbeats 2000000
theorem qb0(R:Nat)(A:Option Addr)(n c:Nat)(f:Tr)(w:World)(hk:KidsTr w (OldT w) .pat A n c f)(hsz:f.size<=1000000)(hR:R<=1000000)(ht:Tbl w)(hin:f.ints) :
  Calls Tryz.prog 78 #[.int .i64 (R:Int),.slice A n c,.func (.func 73) #[] #[],.func (.func 79) #[] #[]] w fun e w'=>e=.returned (.bool ((f.pre 0).all (qX (hdP hPf) R)))/\Bel w w':=by
 have HK:=hid hk;have HT:=hid ht;have HIN:=hid hin;clear hk ht hin;obtain⟨SF,hSF⟩:∃ SF:Vis->Bool,SF=qX (hdP hPf) R:=⟨_,rfl⟩
 have HSF:=hid hSF;rw[<- hSF];clear hSF;refine (callsIn_wide (n:=6)).1 ?_;refine callsIn_of_wp_marks Tryz.func78 rfl trivial ?_ rfl;simp only[Tryz.ntmps78,List.size_toArray,List.length_cons,List.length_nil,Nat.reduceAdd,Nat.reduceSub,Array.replicate_succ,Array.replicate_zero,List.push_toArray,List.append_toArray,List.nil_append,List.cons_append];gi_wp2_with (refine⟨trivial,?_⟩;gi_at_call 117;refine (callsIn_wide.2 (Za _ _ _ _)).mono ?_;rintro e w2 ⟨rfl,rfl⟩)
 obtain⟨hb,hhb⟩:∃ hb,hb=w.heap.size:=⟨_,rfl⟩
 obtain⟨wq,hwq⟩:∃ wq,wq=((((w.alloc (.cells #[.int .i64 (R:Int)] 3)).alloc (.cells #[.func (.func 79) #[] #[]] 148)).alloc (.cells #[.bool false] 4)).alloc (.cells #[.slice A n c] 109)).alloc (.cells #[.func (.func 73) #[] #[]] 137):=⟨_,rfl⟩
 have hbq:Bel w wq:=by rw[hwq];exact (((((Bel.refl w).alloc _).alloc _).alloc _).alloc _).alloc _
 have hsq:wq.heap.size=hb+5:=by rw[hwq,hhb];simp
 have hq4:=blk5 w (.cells #[.int .i64 (R:Int)] 3) (.cells #[.func (.func 79) #[] #[]] 148) (.cells #[.bool false] 4) (.cells #[.slice A n c] 109) (.cells #[.func (.func 73) #[] #[]] 137);rw[<- hwq,<- hhb]at hq4;obtain⟨q0,q1,q2,q3,q4⟩:=hq4;replace q0:Boxed wq hb 3 (.int .i64 (R:Int)):=q0
 replace q1:Boxed wq (hb+1) 148 (.func (.func 79) #[] #[]):=q1
 replace q2:Boxed wq (hb+2) 4 (.bool false):=q2
 replace q3:Boxed wq (hb+3) 109 (.slice A n c):=q3
 replace q4:Boxed wq (hb+4) 137 (.func (.func 73) #[] #[]):=q4
 rw[<- hwq,<- hhb];have HBQ:=hid hbq;have HHB:=hid hhb;have HSQ:=hid hsq;have Q0:=hid q0;have Q1:=hid q1;have Q2:=hid q2;have Q3:=hid q3;have Q4:=hid q4;clear hwq hbq hsq q0 q1 q2 q3 q4 hhb;refine zg (α:=Nd) (gf:=141) (lb:=#[.pointer (some ⟨hb+3,0,none⟩),.pointer (some ⟨hb+4,0,none⟩)]) rfl (fun args w=>by kernel_rfl) (encs:=encP) (Zb A n c (hb+3) (hb+4) f hsz) (fun _=>rfl)
  (fun pre x Y W W' h hs hk=>⟨h.1,h.2.keep (fun j hj=>hk j hj.1 hj.2) (fun j hj=>⟨Nat.lt_of_lt_of_le hj.1 hs,hj.2⟩)⟩)
  (fun xs Y W=>(∀ k,Y k↔(k=hb∨k=hb+1∨k=hb+2))/\Boxed W hb 3 (.int .i64 (R:Int))/\Boxed W (hb+1) 148 (.func (.func 79) #[] #[])/\Boxed W (hb+2) 4 (.bool false)/\hb+5<=W.heap.size/\(xs.map Nd.v).all SF=true)
  (fun xs Y W=>Y (hb+2)/\Boxed W (hb+2) 4 (.bool false)/\(f.pre 0).all SF=false) ?_ (fun s Y W W' h _ hk=>⟨h.1,(hk _ h.1).trans h.2.1,h.2.2⟩)
  (Y0:=fun k=>k=hb∨k=hb+1∨k=hb+2) ?_ (fun k hk=>by have:=HSQ.out;omega) ⟨fun _=>Iff.rfl,Q0.out,Q1.out,Q2.out,by rw[HSQ.out];exact Nat.le_refl _,rfl⟩
  (fun x bx=>{ tmps:=#[.int .i64 (R:Int),.slice A n c,.func (.func 73) #[] #[],.func (.func 79) #[] #[],.pointer (some ⟨hb,0,none⟩),undef,undef,.pointer (some ⟨hb+1,0,none⟩),.pointer (some ⟨hb+2,0,none⟩),x.v.d,.pointer (some ⟨bx,0,none⟩),.slice A n c,.func (.func 73) #[] #[],.func (.func 141) #[] #[.pointer (some ⟨hb+3,0,none⟩),.pointer (some ⟨hb+4,0,none⟩)],x.v.d,.agg #[.int .u8 x.v.k,.string ⟨x.v.s.toArray⟩,x.v.n,x.p.a,x.p.l,x.p.c,.slice x.A x.v.kids.len x.ca],undef,undef,undef,undef,undef,undef,undef,undef,undef,undef,undef,undef],defers:=[] })
  (fun x=> .cells #[.int .u8 x.v.k,.string ⟨x.v.s.toArray⟩,x.v.n,x.p.a,x.p.l,x.p.c,.slice x.A x.v.kids.len x.ca] 111) ?_ ?_ ?_ ?_
 ·rintro s Y W W' ⟨h1,h2,h3,h4,h5,h6⟩ hs hk
  exact⟨h1,(hk hb ((h1 hb).2 (.inl rfl))).trans h2,(hk (hb+1) ((h1 _).2 (.inr (.inl rfl)))).trans h3,(hk (hb+2) ((h1 _).2 (.inr (.inr rfl)))).trans h4,Nat.le_trans h5 hs,h6⟩
 ·rintro Y W hbW hY
  have hn:∀ j,Y j->hb<=j/\j≠hb+3/\j≠hb+4:=fun j hj=>by
   have:=HSQ.out;rcases hY j hj with (h | h | h) | h <;> omega
  refine⟨hbW.blk Q3.out,hbW.blk Q4.out,(HK.out.keep (fun j hj=>(HBQ.out.on hbW).block j hj)).wide (fun j hj=>⟨Nat.lt_of_lt_of_le hj (HBQ.out.on hbW).size,fun h=>?_⟩),fun h=>(hn _ h).2.1 rfl,fun h=>(hn _ h).2.2 rfl⟩;have h1:=(hn j h).1;have h2:j<w.heap.size:=hj;rw[HHB.out]at h1;omega
 ·rintro l x W K hK
  have HKK:=hid hK;clear hK;simp only[encP];gi_wp2
  exact HKK.out
 ·rintro l bx pre x Y W hbx1 hbx2 hob hYb ⟨Y',hYY,⟨suf,hpre⟩,hat⟩ hmv0 hYl ⟨hY,hi0,hi1,hi2,hi3,hi4⟩ hYs
  have hmem:x.v∈f.pre 0:=by rw[hpre];simp
  have hvs:=Tr.pre_size f 0 x.v hmem;have HVS:Hid (x.v.kids.size+x.v.arms.size<=1000000/\x.v.d<=1000000):=hid (by omega);have HVI:=hid (Tr.pre_ints f 0 x.v hmem HIN.out);have HAT:=hid hat;have HYS:=hid hYs;have HY:=hid hY;have HI0:=hid hi0;have HI1:=hid hi1;have HI2:=hid hi2;have HI3:=hid hi3;have HI4:=hid hi4;have HPRE:=hid hpre;have HBX:=hid hbx1;have HTW:Hid (Tbl W):=hid (by
   have h1:Mv (fun k=>k=hb∨k=hb+1∨k=hb+2) w W:=(Mv.of_bel HBQ.out).trans hmv0 (fun j hj=> .inl hj);have h2:Mv (fun _=>False) w W:=⟨h1.os,h1.tape,h1.output,h1.size,fun j hj _=>h1.block j hj (by have:=HHB.out;omega)⟩
   exact HT.out.bel h2.bel)
  obtain⟨xv,xp,xA,xca,xB,xcb⟩:=x;obtain⟨d,k,s,nn,kids,arms⟩:=xv;obtain⟨l1,hl1⟩:∃ l,l=kids.len:=⟨_,rfl⟩
  obtain⟨l2,hl2⟩:∃ l,l=arms.len:=⟨_,rfl⟩
  obtain⟨SS,hSS⟩:∃ S:ByteArray,S=⟨s.toArray⟩:=⟨_,rfl⟩
  simp only at HAT HVS HVI hob ⊢;obtain⟨sb,hsb⟩:∃ sb,sb=(hdP hPf) (R-d) ⟨d,k,s,nn,kids,arms⟩:=⟨_,rfl⟩
  have HSB:Hid (SF ⟨d,k,s,nn,kids,arms⟩=(decide (d<R)&&sb)):=hid (by rw[HSF.out,hsb];rfl);have HCC:Hid (d<R->∀ W',Bel W W'->Calls Tryz.prog 79 #[.int .i64 ((R:Int)-(d:Int)),.agg #[.int .u8 k,.string ⟨s.toArray⟩,nn,xp.a,xp.l,xp.c,.slice xA kids.len xca]] W' fun e w'=>e=.returned (.bool sb)/\Bel W' w'):=hid fun hdR W' hW'=>by
   rw[hsb];exact qb3 k s nn xp xA kids.len xca _ W' (HTW.out.bel hW') HVI.out.1
  simp only[<- hl1,<- hSS]at hob HCC ⊢;have hdb:d<=1000000:=HVS.out.2;obtain⟨x0,x1,x2,x3,x4,x5,x6⟩:=box7 hob;have eg:∀ args w,(callFunc 79 args).run Tryz.prog w=.ok (.enter 79 args) w:=fun args w=>by kernel_rfl
  have z0:=hi0.cell;have z1:=hi1.cell;have z2:=hi2.cell;have f2:=hi2.frozen;have hlt2:=hi2.lt;have hlt0:=hi0.lt;have hlt1:=hi1.lt;clear hpre hmem hvs hat hYs hY hYY hi0 hi1 hi2 hi3 hi4 hob hYl hbx1 hYb hl1 hl2 hSS hsb hmv0;have no:∀ W',Bel W W'->SF ⟨d,k,s,nn,kids,arms⟩=false->Mv Y W (W'.setCell ⟨hb+2,0,none⟩ (.bool false))/\∃ Y':Nat->Prop,(Y' (hb+2)/\Boxed (W'.setCell ⟨hb+2,0,none⟩ (.bool false)) (hb+2) 4 (.bool false)/\(f.pre 0).all SF=false)/\∀ k,Y' k->k<(W'.setCell ⟨hb+2,0,none⟩ (.bool false)).heap.size/\(Y k∨W.heap.size<=k):=fun W' hW' hs=>by
   have hB:Boxed W' (hb+2) 4 (.bool false):=hW'.blk HI2.out;refine⟨Mv.set_ (p:=⟨hb+2,0,none⟩) (Mv.of_bel hW') (.inl ((HY.out (hb+2)).2 (.inr (.inr rfl)))) _,Y,⟨(HY.out (hb+2)).2 (.inr (.inr rfl)),hB.set _,?_⟩,fun j hj=>⟨by have:=hW'.size;have:=HYS.out j hj;simp;omega,.inl hj⟩⟩;rw[HPRE.out,List.all_append,List.all_cons,hs];simp
  have NO:=hid no;clear no;by_cases hdR:d<R
  ·have g1:decide (R<=d)=false:=by simp;omega
   have HC:=hid (HCC.out hdR);have hRb:R<=1000000:=hR;clear HCC;cases sb
   ·gi_wp2_with (refine⟨trivial,?_⟩;gi_at_call 79;refine (CallsIn.inRound l (callsIn_wide.2 (HC.out _ (Bel.refl _)))).mono ?_;rintro e w4 ⟨rfl,hb4⟩;(have c4:=(show Boxed w4 (hb+2) 4 (.bool false) from hb4.blk HI2.out).cell);(have f4:=(show Boxed w4 (hb+2) 4 (.bool false) from hb4.blk HI2.out).frozen);(have HB4:=hid hb4);clear hb4)
    exact NO.out w4 HB4.out (by rw[HSB.out];simp)
   ·gi_wp2_with (refine⟨trivial,?_⟩;gi_at_call 79;refine (CallsIn.inRound l (callsIn_wide.2 (HC.out _ (Bel.refl _)))).mono ?_;rintro e w4 ⟨rfl,hb4⟩;(have c4:=(show Boxed w4 (hb+2) 4 (.bool false) from hb4.blk HI2.out).cell);(have f4:=(show Boxed w4 (hb+2) 4 (.bool false) from hb4.blk HI2.out).frozen);(have HB4:=hid hb4);clear hb4)
    have hB0:Boxed w4 hb 3 (.int .i64 (R:Int)):=HB4.out.blk HI0.out;have hB1:Boxed w4 (hb+1) 148 (.func (.func 79) #[] #[]):=HB4.out.blk HI1.out;have hB2:Boxed w4 (hb+2) 4 (.bool false):=HB4.out.blk HI2.out;refine⟨Mv.of_bel HB4.out,Y,⟨HY.out,hB0,hB1,hB2,Nat.le_trans HI3.out HB4.out.size,?_⟩,fun j hj=>⟨Nat.lt_of_lt_of_le (HYS.out j hj) HB4.out.size,.inl hj⟩⟩;rw[List.map_append,List.all_append,HI4.out,List.map_cons,List.map_nil,List.all_cons,HSB.out];simp[hdR]
  ·have g1:R<=d:=by omega
   have g2:decide (R<=d)=true:=by simp;omega
   clear HCC;gi_wp2
   refine⟨fun _ _=>trivial,?_⟩;gi_wp2
   exact NO.out W (Bel.refl W) (by rw[HSB.out];simp[hdR])
 ·rintro D xs Y W hD hfin ⟨hY,hi0,hi1,hi2,hi3,hi4⟩ hmv hYs hDd hYD
  have HI:=hid hi2;have HFIN:=hid hfin;have HALL:=hid hi4;have HMV:=hid hmv;have HDD:=hid hDd;have HDL:=hid hD;have c1:=hi2.cell;have f1:=hi2.frozen;have hlt:=hi2.lt;have HNE:Hid (D≠hb+2):=hid (fun e=>hYD ((hY D).2 (.inr (.inr e))));clear hY hi0 hi1 hi2 hi3 hi4 hmv hYs hDd hYD hfin hD;simp only[Exit.inBlock,Exit.then];gi_wp2
  have hbo:Boxed (W.setCell ⟨hb+2,0,none⟩ (.bool true)) (hb+2) 4 (.bool true):=(show Boxed W (hb+2) 4 (.bool false) from HI.out).set _;have hdd:(W.setCell ⟨hb+2,0,none⟩ (.bool true)).heap[D]?=some (.deferred (some [])):=(Below.heap_setCell W _ _ D HNE.out).trans HDD.out;refine qw hdd (fun w' hmw=>⟨.bool true,qf rfl _ _ _ rfl ?_,?_⟩)
  ·have h2:Boxed w' (hb+2) 4 (.bool true):=(hmw.block (hb+2) hbo.lt (fun e=>HNE.out e.symm)).trans hbo
   exact zz h2
  ·have hv:(f.pre 0).all SF=true:=by rw[<- HFIN.out];exact HALL.out
   rw[hv];refine⟨rfl,?_⟩;have h1:Mv (fun k=>k=hb∨k=hb+1∨k=hb+2) w W:=(Mv.of_bel HBQ.out).trans HMV.out (fun j hj=> .inl hj);have h3:Mv (fun k=>k=hb∨k=hb+1∨k=hb+2) w (W.setCell ⟨hb+2,0,none⟩ (.bool true)):=h1.set_ (.inl (.inr (.inr rfl))) _;have h2:Mv (fun _=>False) w (W.setCell ⟨hb+2,0,none⟩ (.bool true)):=⟨h3.os,h3.tape,h3.output,h3.size,fun j hj _=>h3.block j hj (by have:=HHB.out;omega)⟩
   exact (h2.trans hmw (fun j hj=> .inr (by have:=HDL.out;have:=HBQ.out.size;omega))).bel
 ·rintro D xs Y W hD ⟨hy2,hbx,hfl⟩ hmv hYs hDd hYD
  refine qw hDd (fun w' hmw=>⟨.bool false,qf rfl _ _ _ rfl ?_,?_⟩)
  ·have h2:Boxed w' (hb+2) 4 (.bool false):=(hmw.block (hb+2) hbx.lt (fun e=>hYD (e ▸ hy2))).trans hbx
   exact zz h2
  ·rw[hfl]
   refine⟨rfl,?_⟩;have h1:Mv (fun k=>k=hb∨k=hb+1∨k=hb+2) w W:=(Mv.of_bel HBQ.out).trans hmv (fun j hj=> .inl hj);have h2:Mv (fun _=>False) w W:=⟨h1.os,h1.tape,h1.output,h1.size,fun j hj _=>h1.block j hj (by have:=HHB.out;omega)⟩
   exact (h2.trans hmw (fun j hj=> .inr (by have:=HBQ.out.size;omega))).bel
theorem qak(k:Int)(s:List UInt8)(n:Int)(p:Pl)(A:Option Addr)(c:Nat)(B:Option Addr)(bc:Nat)(kids arms:Tr)(r:Int)(Q:Nat)(hr:r=(Q:Int)+1)(hQ:Q<=1000000)(dd:Nat)(w:World)(hk:KidsTr w (OldT w) .ex A kids.len c kids)(ha:KidsTr w (OldT w) .arms B arms.len bc arms)(hsz:kids.size+arms.size<=1000000)(ht:Tbl w)(hf:fitN s n)(hai:arms.ints) :
  Calls Tryz.prog 41 #[.int .i64 r,.agg #[.int .u8 k,.string ⟨s.toArray⟩,n,p.a,p.l,p.c,.slice A kids.len c,.slice B arms.len bc]] w fun e w'=>e=.returned (.bool (hdX hEf hPf (Q+1) ⟨dd,k,s,n,kids,arms⟩))/\Bel w w':=by
 have HR:Hid (∀ W,Calls Tryz.prog 76 #[.agg #[.int .u8 k,.string ⟨s.toArray⟩,n,p.a,p.l,p.c,.slice A kids.len c,.slice B arms.len bc]] W fun e w'=>e=.returned (.tuple #[.agg #[.int .u8 (exR k s).1,.int .i64 (exR k s).2.1],.bool (exR k s).2.2])/\Bel W w'):=hid fun W=>Qk k s n p A kids.len c B arms.len bc W;have HKP:Hid (∀ W,Bel w W->Calls Tryz.prog 77 #[.agg #[.int .u8 (exR k s).1,.int .i64 (exR k s).2.1],.string ⟨s.toArray⟩,n,(kids.len:Int)] W fun e w'=>e=.returned (.bool (keepB (exR k s).1 (exR k s).2.1 s n kids.len))/\Bel W w'):=hid fun W hW=>QQ (exR k s).1 (exR k s).2.1 s n kids.len W (ht.bel hW) hf.1 hf.2.1 hf.2.2;have HP:Hid (∀ W,Bel w W->Calls Tryz.prog 72 #[.agg #[.int .u8 k,.string ⟨s.toArray⟩,n,p.a,p.l,p.c,.slice A kids.len c,.slice B arms.len bc]] W (ji W (OldT W) .pat arms.pats)):=hid fun W hW=>zt k s n p A c B bc kids arms (OldT W) W (hk.bel hW) (ha.bel hW) (fun _ h=>h) (by have:=kids.len_le;omega) (by have:=arms.len_le;omega);have hps:arms.pats.size<=1000000:=by have:=arms.pats_size;omega
 obtain⟨ab,hab⟩:∃ b,b=(arms.pats.pre 0).all (qX (hdP hPf) Q):=⟨_,rfl⟩
 have HM:Hid (∀ (A2:Option Addr) (c2:Nat) (W:World),Bel w W->KidsTr W (OldT W) .pat A2 arms.pats.len c2 arms.pats->Calls Tryz.prog 78 #[.int .i64 (r-1),.slice A2 arms.pats.len c2,.func (.func 73) #[] #[],.func (.func 79) #[] #[]] W fun e w'=>e=.returned (.bool ab)/\Bel W w'):=hid fun A2 c2 W hW h=>by
  rw[hab,show r-1=(Q:Int) by omega];exact qb0 Q A2 arms.pats.len c2 arms.pats W h hps hQ (ht.bel hW) (Tr.pats_ints arms hai)
 have hrl:-9223372036854775808<=r-1/\r-1<=9223372036854775807:=by omega
 obtain⟨hr1,hr2⟩:=hrl;have ev:hdX hEf hPf (Q+1) ⟨dd,k,s,n,kids,arms⟩=(((exR k s).2.2&&(keepB (exR k s).1 (exR k s).2.1 s n kids.len&&(decide (0<arms.len)==decide (k=8))))&&ab):=by rw[hab];rfl
 rw[ev];obtain⟨tk,htk⟩:∃ t,t=(exR k s).1:=⟨_,rfl⟩
 obtain⟨kc,hkc⟩:∃ t,t=(exR k s).2.1:=⟨_,rfl⟩
 obtain⟨ok,hok⟩:∃ t,t=(exR k s).2.2:=⟨_,rfl⟩
 rw[<- htk,<- hkc,<- hok]at HR;rw[<- htk,<- hkc]at HKP;rw[<- htk,<- hkc,<- hok];obtain⟨kb,hkb⟩:∃ t,t=keepB tk kc s n kids.len:=⟨_,rfl⟩
 obtain⟨SS,hSS⟩:∃ S:ByteArray,S=⟨s.toArray⟩:=⟨_,rfl⟩
 obtain⟨l1,hl1⟩:∃ l,l=kids.len:=⟨_,rfl⟩
 obtain⟨l2,hl2⟩:∃ l,l=arms.len:=⟨_,rfl⟩
 obtain⟨pl,hpl⟩:∃ l,l=arms.pats.len:=⟨_,rfl⟩
 rw[<- hkb,<- hSS,<- hl1]at HKP;rw[<- hSS,<- hl1,<- hl2]at HR HP;rw[<- hpl]at HM;rw[<- hkb,<- hSS,<- hl1,<- hl2];have HPL:=hid hpl;clear ht hf htk hkc hok hkb hSS hl1 hl2 hpl hk ha hsz hai hps hab ev hr hQ;have hb1:Bel w (w.alloc (.cells #[.int .u8 k,SS,n,p.a,p.l,p.c,.slice A l1 c,.slice B l2 bc] 43)):=(Bel.refl w).alloc _;have q1:=blk1 w (.cells #[.int .u8 k,SS,n,p.a,p.l,p.c,.slice A l1 c,.slice B l2 bc] 43);have HB1:=hid hb1;have HQ1:=hid q1;clear hb1 q1;go_enter Tryz.func41,Tryz.ntmps41
 go_wp2_with fail
 refine (HR.out _).mono ?_;rintro e w2 ⟨rfl,hb2⟩;have HB2:=hid (HB1.out.on hb2);have q2:=hb2.blk HQ1.out;obtain⟨x0,x1,x2,x3,x4,x5,x6,x7⟩:=box8 q2;have hlt:w.heap.size<w2.heap.size:=(Array.getElem?_eq_some_iff.1 q2).1;have HQ2:=hid q2;clear hb2 q2 HR;cases ok
 ·go_wp2_with fail
  go_ret
  exact⟨rfl,HB2.out.alloc _⟩
 ·go_wp2_with fail
  refine (HKP.out _ (HB2.out.alloc _)).mono ?_;rintro e w3 ⟨rfl,hb3⟩;have HB3:=hid ((HB2.out.alloc _).on hb3);have q3:=hb3.blk (((Bel.refl w2).alloc _).blk HQ2.out);have z0:=w3;have z1:=True;clear x0 x1 x2 x3 x4 x5 x6 x7 hb3 HKP;obtain⟨x0,x1,x2,x3,x4,x5,x6,x7⟩:=box8 q3;have hlt3:w.heap.size<w3.heap.size:=(Array.getElem?_eq_some_iff.1 q3).1;clear q3;cases kb
  ·go_wp2_with fail
   go_ret
   exact⟨rfl,HB3.out⟩
  rcases Nat.eq_zero_or_pos l2 with ha0 | ha0 <;> by_cases k8:k=8
  ·subst ha0 k8
   go_wp2_with fail
   go_ret
   exact⟨rfl,HB3.out⟩
  ·subst ha0
   have d8:(k==8)=false:=by simpa using k8
   have d9:decide (k=8)=false:=by simpa using k8
   go_wp2_with fail
   refine (HP.out _ HB3.out).mono ?_;rintro e w4 ⟨A2,c2,rfl,hb4,hk4⟩;have HB4:=hid (HB3.out.on hb4);have HK4:Hid (KidsTr w4 (OldT w4) .pat A2 pl c2 arms.pats):=hid (by rw[HPL.out];exact hk4.wide fun j hj=>by rcases hj with h | h;exact Nat.lt_of_lt_of_le h hb4.size;exact h.2);rw[<- HPL.out];clear hb4 hk4 x0 x1 x2 x3 x4 x5 x6 x7 z0 z1;go_wp2_with fail
   refine (HM.out A2 c2 w4 HB4.out HK4.out).mono ?_;rintro e w5 ⟨rfl,hb5⟩;have HB5:=hid (HB4.out.on hb5);clear hb5;go_wp2_with fail
   go_ret
   exact⟨by simp[k8],HB5.out⟩
  ·subst k8
   have d10:decide ((0:Int)<(l2:Int))=true:=by simp;omega
   have d11:decide (0<l2)=true:=by simpa using ha0
   go_wp2_with fail
   refine (HP.out _ HB3.out).mono ?_;rintro e w4 ⟨A2,c2,rfl,hb4,hk4⟩;have HB4:=hid (HB3.out.on hb4);have HK4:Hid (KidsTr w4 (OldT w4) .pat A2 pl c2 arms.pats):=hid (by rw[HPL.out];exact hk4.wide fun j hj=>by rcases hj with h | h;exact Nat.lt_of_lt_of_le h hb4.size;exact h.2);rw[<- HPL.out];clear hb4 hk4 x0 x1 x2 x3 x4 x5 x6 x7 z0 z1;go_wp2_with fail
   refine (HM.out A2 c2 w4 HB4.out HK4.out).mono ?_;rintro e w5 ⟨rfl,hb5⟩;have HB5:=hid (HB4.out.on hb5);clear hb5;go_wp2_with fail
   go_ret
   exact⟨by simp,HB5.out⟩
  ·have d8:(k==8)=false:=by simpa using k8
   have d9:decide (k=8)=false:=by simpa using k8
   have d10:decide ((0:Int)<(l2:Int))=true:=by simp;omega
   have d11:decide (0<l2)=true:=by simpa using ha0
   go_wp2_with fail
   go_ret
   exact⟨by simp[d9,d11],HB3.out⟩
theorem ZD(R:Nat)(A:Option Addr)(n c:Nat)(f:Tr)(w:World)(hk:KidsTr w (OldT w) .ex A n c f)(hsz:f.size<=1000000)(hR:R<=1000000)(ht:Tbl w)(hin:f.ints) :
  Calls Tryz.prog 40 #[.int .i64 (R:Int),.slice A n c,.func (.func 34) #[] #[],.func (.func 41) #[] #[]] w fun e w'=>e=.returned (.bool ((f.pre 0).all (qX (hdX hEf hPf) R)))/\Bel w w':=by
 have HK:=hid hk;have HT:=hid ht;have HIN:=hid hin;clear hk ht hin;obtain⟨SF,hSF⟩:∃ SF:Vis->Bool,SF=qX (hdX hEf hPf) R:=⟨_,rfl⟩
 have HSF:=hid hSF;rw[<- hSF];clear hSF;refine (callsIn_wide (n:=6)).1 ?_;refine callsIn_of_wp_marks Tryz.func40 rfl trivial ?_ rfl;simp only[Tryz.ntmps40,List.size_toArray,List.length_cons,List.length_nil,Nat.reduceAdd,Nat.reduceSub,Array.replicate_succ,Array.replicate_zero,List.push_toArray,List.append_toArray,List.nil_append,List.cons_append];gi_wp2_with (refine⟨trivial,?_⟩;gi_at_call 69;refine (callsIn_wide.2 (Ze _ _ _ _)).mono ?_;rintro e w2 ⟨rfl,rfl⟩)
 obtain⟨hb,hhb⟩:∃ hb,hb=w.heap.size:=⟨_,rfl⟩
 obtain⟨wq,hwq⟩:∃ wq,wq=((((w.alloc (.cells #[.int .i64 (R:Int)] 3)).alloc (.cells #[.func (.func 41) #[] #[]] 105)).alloc (.cells #[.bool false] 4)).alloc (.cells #[.slice A n c] 40)).alloc (.cells #[.func (.func 34) #[] #[]] 98):=⟨_,rfl⟩
 have hbq:Bel w wq:=by rw[hwq];exact (((((Bel.refl w).alloc _).alloc _).alloc _).alloc _).alloc _
 have hsq:wq.heap.size=hb+5:=by rw[hwq,hhb];simp
 have hq4:=blk5 w (.cells #[.int .i64 (R:Int)] 3) (.cells #[.func (.func 41) #[] #[]] 105) (.cells #[.bool false] 4) (.cells #[.slice A n c] 40) (.cells #[.func (.func 34) #[] #[]] 98);rw[<- hwq,<- hhb]at hq4;obtain⟨q0,q1,q2,q3,q4⟩:=hq4;replace q0:Boxed wq hb 3 (.int .i64 (R:Int)):=q0
 replace q1:Boxed wq (hb+1) 105 (.func (.func 41) #[] #[]):=q1
 replace q2:Boxed wq (hb+2) 4 (.bool false):=q2
 replace q3:Boxed wq (hb+3) 40 (.slice A n c):=q3
 replace q4:Boxed wq (hb+4) 98 (.func (.func 34) #[] #[]):=q4
 rw[<- hwq,<- hhb];have HBQ:=hid hbq;have HHB:=hid hhb;have HSQ:=hid hsq;have Q0:=hid q0;have Q1:=hid q1;have Q2:=hid q2;have Q3:=hid q3;have Q4:=hid q4;clear hwq hbq hsq q0 q1 q2 q3 q4 hhb;refine zg (α:=Nd) (gf:=116) (lb:=#[.pointer (some ⟨hb+3,0,none⟩),.pointer (some ⟨hb+4,0,none⟩)]) rfl (fun args w=>by kernel_rfl) (encs:=encX) (Zf A n c (hb+3) (hb+4) f hsz) (fun _=>rfl)
  (fun pre x Y W W' h hs hk=>⟨h.1,h.2.keep (fun j hj=>hk j hj.1 hj.2) (fun j hj=>⟨Nat.lt_of_lt_of_le hj.1 hs,hj.2⟩)⟩)
  (fun xs Y W=>(∀ k,Y k↔(k=hb∨k=hb+1∨k=hb+2))/\Boxed W hb 3 (.int .i64 (R:Int))/\Boxed W (hb+1) 105 (.func (.func 41) #[] #[])/\Boxed W (hb+2) 4 (.bool false)/\hb+5<=W.heap.size/\(xs.map Nd.v).all SF=true)
  (fun xs Y W=>Y (hb+2)/\Boxed W (hb+2) 4 (.bool false)/\(f.pre 0).all SF=false) ?_ (fun s Y W W' h _ hk=>⟨h.1,(hk _ h.1).trans h.2.1,h.2.2⟩)
  (Y0:=fun k=>k=hb∨k=hb+1∨k=hb+2) ?_ (fun k hk=>by have:=HSQ.out;omega) ⟨fun _=>Iff.rfl,Q0.out,Q1.out,Q2.out,by rw[HSQ.out];exact Nat.le_refl _,rfl⟩
  (fun x bx=>{ tmps:=#[.int .i64 (R:Int),.slice A n c,.func (.func 34) #[] #[],.func (.func 41) #[] #[],.pointer (some ⟨hb,0,none⟩),undef,undef,.pointer (some ⟨hb+1,0,none⟩),.pointer (some ⟨hb+2,0,none⟩),x.v.d,.pointer (some ⟨bx,0,none⟩),.slice A n c,.func (.func 34) #[] #[],.func (.func 116) #[] #[.pointer (some ⟨hb+3,0,none⟩),.pointer (some ⟨hb+4,0,none⟩)],x.v.d,.agg #[.int .u8 x.v.k,.string ⟨x.v.s.toArray⟩,x.v.n,x.p.a,x.p.l,x.p.c,.slice x.A x.v.kids.len x.ca,.slice x.B x.v.arms.len x.cb],undef,undef,undef,undef,undef,undef,undef,undef,undef,undef,undef,undef],defers:=[] })
  (fun x=> .cells #[.int .u8 x.v.k,.string ⟨x.v.s.toArray⟩,x.v.n,x.p.a,x.p.l,x.p.c,.slice x.A x.v.kids.len x.ca,.slice x.B x.v.arms.len x.cb] 43) ?_ ?_ ?_ ?_
 ·rintro s Y W W' ⟨h1,h2,h3,h4,h5,h6⟩ hs hk
  exact⟨h1,(hk hb ((h1 hb).2 (.inl rfl))).trans h2,(hk (hb+1) ((h1 _).2 (.inr (.inl rfl)))).trans h3,(hk (hb+2) ((h1 _).2 (.inr (.inr rfl)))).trans h4,Nat.le_trans h5 hs,h6⟩
 ·rintro Y W hbW hY
  have hn:∀ j,Y j->hb<=j/\j≠hb+3/\j≠hb+4:=fun j hj=>by
   have:=HSQ.out;rcases hY j hj with (h | h | h) | h <;> omega
  refine⟨hbW.blk Q3.out,hbW.blk Q4.out,(HK.out.keep (fun j hj=>(HBQ.out.on hbW).block j hj)).wide (fun j hj=>⟨Nat.lt_of_lt_of_le hj (HBQ.out.on hbW).size,fun h=>?_⟩),fun h=>(hn _ h).2.1 rfl,fun h=>(hn _ h).2.2 rfl⟩;have h1:=(hn j h).1;have h2:j<w.heap.size:=hj;rw[HHB.out]at h1;omega
 ·rintro l x W K hK
  have HKK:=hid hK;clear hK;simp only[encX];gi_wp2
  exact HKK.out
 ·rintro l bx pre x Y W hbx1 hbx2 hob hYb ⟨Y',hYY,⟨suf,hpre⟩,hat⟩ hmv0 hYl ⟨hY,hi0,hi1,hi2,hi3,hi4⟩ hYs
  have hmem:x.v∈f.pre 0:=by rw[hpre];simp
  have hvs:=Tr.pre_size f 0 x.v hmem;have HVS:Hid (x.v.kids.size+x.v.arms.size<=1000000/\x.v.d<=1000000):=hid (by omega);have HVI:=hid (Tr.pre_ints f 0 x.v hmem HIN.out);have HAT:=hid hat;have HYS:=hid hYs;have HY:=hid hY;have HI0:=hid hi0;have HI1:=hid hi1;have HI2:=hid hi2;have HI3:=hid hi3;have HI4:=hid hi4;have HPRE:=hid hpre;have HBX:=hid hbx1;have HTW:Hid (Tbl W):=hid (by
   have h1:Mv (fun k=>k=hb∨k=hb+1∨k=hb+2) w W:=(Mv.of_bel HBQ.out).trans hmv0 (fun j hj=> .inl hj);have h2:Mv (fun _=>False) w W:=⟨h1.os,h1.tape,h1.output,h1.size,fun j hj _=>h1.block j hj (by have:=HHB.out;omega)⟩
   exact HT.out.bel h2.bel)
  obtain⟨xv,xp,xA,xca,xB,xcb⟩:=x;obtain⟨d,k,s,nn,kids,arms⟩:=xv;obtain⟨l1,hl1⟩:∃ l,l=kids.len:=⟨_,rfl⟩
  obtain⟨l2,hl2⟩:∃ l,l=arms.len:=⟨_,rfl⟩
  obtain⟨SS,hSS⟩:∃ S:ByteArray,S=⟨s.toArray⟩:=⟨_,rfl⟩
  simp only at HAT HVS HVI hob ⊢;obtain⟨sb,hsb⟩:∃ sb,sb=(hdX hEf hPf) (R-d) ⟨d,k,s,nn,kids,arms⟩:=⟨_,rfl⟩
  have HSB:Hid (SF ⟨d,k,s,nn,kids,arms⟩=(decide (d<R)&&sb)):=hid (by rw[HSF.out,hsb];rfl);have HCC:Hid (d<R->∀ W',Bel W W'->Calls Tryz.prog 41 #[.int .i64 ((R:Int)-(d:Int)),.agg #[.int .u8 k,.string ⟨s.toArray⟩,nn,xp.a,xp.l,xp.c,.slice xA kids.len xca,.slice xB arms.len xcb]] W' fun e w'=>e=.returned (.bool sb)/\Bel W' w'):=hid fun hdR W' hW'=>by
   rw[hsb];rw[show R-d=(R-d-1)+1 by omega];rcases HAT.out.2 with ⟨_,ha⟩ | ⟨e | e,_⟩
   ·exact qak k s nn xp xA xca xB xcb kids arms _ (R-d-1) (by omega) (by omega) d W' ((HAT.out.1.keep fun j hj=>hW'.block j hj.1).wide fun j hj=>Nat.lt_of_lt_of_le hj.1 hW'.size) ((ha.keep fun j hj=>hW'.block j hj.1).wide fun j hj=>Nat.lt_of_lt_of_le hj.1 hW'.size) HVS.out.1 (HTW.out.bel hW') HVI.out.1 HVI.out.2.2
   ·cases e
   ·cases e
  simp only[<- hl1,<- hl2,<- hSS]at hob HCC ⊢;have hdb:d<=1000000:=HVS.out.2;obtain⟨x0,x1,x2,x3,x4,x5,x6,x7⟩:=box8 hob;have eg:∀ args w,(callFunc 41 args).run Tryz.prog w=.ok (.enter 41 args) w:=fun args w=>by kernel_rfl
  have z0:=hi0.cell;have z1:=hi1.cell;have z2:=hi2.cell;have f2:=hi2.frozen;have hlt2:=hi2.lt;have hlt0:=hi0.lt;have hlt1:=hi1.lt;clear hpre hmem hvs hat hYs hY hYY hi0 hi1 hi2 hi3 hi4 hob hYl hbx1 hYb hl1 hl2 hSS hsb hmv0;have no:∀ W',Bel W W'->SF ⟨d,k,s,nn,kids,arms⟩=false->Mv Y W (W'.setCell ⟨hb+2,0,none⟩ (.bool false))/\∃ Y':Nat->Prop,(Y' (hb+2)/\Boxed (W'.setCell ⟨hb+2,0,none⟩ (.bool false)) (hb+2) 4 (.bool false)/\(f.pre 0).all SF=false)/\∀ k,Y' k->k<(W'.setCell ⟨hb+2,0,none⟩ (.bool false)).heap.size/\(Y k∨W.heap.size<=k):=fun W' hW' hs=>by
   have hB:Boxed W' (hb+2) 4 (.bool false):=hW'.blk HI2.out;refine⟨Mv.set_ (p:=⟨hb+2,0,none⟩) (Mv.of_bel hW') (.inl ((HY.out (hb+2)).2 (.inr (.inr rfl)))) _,Y,⟨(HY.out (hb+2)).2 (.inr (.inr rfl)),hB.set _,?_⟩,fun j hj=>⟨by have:=hW'.size;have:=HYS.out j hj;simp;omega,.inl hj⟩⟩;rw[HPRE.out,List.all_append,List.all_cons,hs];simp
  have NO:=hid no;clear no;by_cases hdR:d<R
  ·have g1:decide (R<=d)=false:=by simp;omega
   have HC:=hid (HCC.out hdR);have hRb:R<=1000000:=hR;clear HCC;cases sb
   ·gi_wp2_with (refine⟨trivial,?_⟩;gi_at_call 41;refine (CallsIn.inRound l (callsIn_wide.2 (HC.out _ (Bel.refl _)))).mono ?_;rintro e w4 ⟨rfl,hb4⟩;(have c4:=(show Boxed w4 (hb+2) 4 (.bool false) from hb4.blk HI2.out).cell);(have f4:=(show Boxed w4 (hb+2) 4 (.bool false) from hb4.blk HI2.out).frozen);(have HB4:=hid hb4);clear hb4)
    exact NO.out w4 HB4.out (by rw[HSB.out];simp)
   ·gi_wp2_with (refine⟨trivial,?_⟩;gi_at_call 41;refine (CallsIn.inRound l (callsIn_wide.2 (HC.out _ (Bel.refl _)))).mono ?_;rintro e w4 ⟨rfl,hb4⟩;(have c4:=(show Boxed w4 (hb+2) 4 (.bool false) from hb4.blk HI2.out).cell);(have f4:=(show Boxed w4 (hb+2) 4 (.bool false) from hb4.blk HI2.out).frozen);(have HB4:=hid hb4);clear hb4)
    have hB0:Boxed w4 hb 3 (.int .i64 (R:Int)):=HB4.out.blk HI0.out;have hB1:Boxed w4 (hb+1) 105 (.func (.func 41) #[] #[]):=HB4.out.blk HI1.out;have hB2:Boxed w4 (hb+2) 4 (.bool false):=HB4.out.blk HI2.out;refine⟨Mv.of_bel HB4.out,Y,⟨HY.out,hB0,hB1,hB2,Nat.le_trans HI3.out HB4.out.size,?_⟩,fun j hj=>⟨Nat.lt_of_lt_of_le (HYS.out j hj) HB4.out.size,.inl hj⟩⟩;rw[List.map_append,List.all_append,HI4.out,List.map_cons,List.map_nil,List.all_cons,HSB.out];simp[hdR]
  ·have g1:R<=d:=by omega
   have g2:decide (R<=d)=true:=by simp;omega
   clear HCC;gi_wp2
   refine⟨fun _ _=>trivial,?_⟩;gi_wp2
   exact NO.out W (Bel.refl W) (by rw[HSB.out];simp[hdR])
 ·rintro D xs Y W hD hfin ⟨hY,hi0,hi1,hi2,hi3,hi4⟩ hmv hYs hDd hYD
  have HI:=hid hi2;have HFIN:=hid hfin;have HALL:=hid hi4;have HMV:=hid hmv;have HDD:=hid hDd;have HDL:=hid hD;have c1:=hi2.cell;have f1:=hi2.frozen;have hlt:=hi2.lt;have HNE:Hid (D≠hb+2):=hid (fun e=>hYD ((hY D).2 (.inr (.inr e))));clear hY hi0 hi1 hi2 hi3 hi4 hmv hYs hDd hYD hfin hD;simp only[Exit.inBlock,Exit.then];gi_wp2
  have hbo:Boxed (W.setCell ⟨hb+2,0,none⟩ (.bool true)) (hb+2) 4 (.bool true):=(show Boxed W (hb+2) 4 (.bool false) from HI.out).set _;have hdd:(W.setCell ⟨hb+2,0,none⟩ (.bool true)).heap[D]?=some (.deferred (some [])):=(Below.heap_setCell W _ _ D HNE.out).trans HDD.out;refine qw hdd (fun w' hmw=>⟨.bool true,qf rfl _ _ _ rfl ?_,?_⟩)
  ·have h2:Boxed w' (hb+2) 4 (.bool true):=(hmw.block (hb+2) hbo.lt (fun e=>HNE.out e.symm)).trans hbo
   exact zz h2
  ·have hv:(f.pre 0).all SF=true:=by rw[<- HFIN.out];exact HALL.out
   rw[hv];refine⟨rfl,?_⟩;have h1:Mv (fun k=>k=hb∨k=hb+1∨k=hb+2) w W:=(Mv.of_bel HBQ.out).trans HMV.out (fun j hj=> .inl hj);have h3:Mv (fun k=>k=hb∨k=hb+1∨k=hb+2) w (W.setCell ⟨hb+2,0,none⟩ (.bool true)):=h1.set_ (.inl (.inr (.inr rfl))) _;have h2:Mv (fun _=>False) w (W.setCell ⟨hb+2,0,none⟩ (.bool true)):=⟨h3.os,h3.tape,h3.output,h3.size,fun j hj _=>h3.block j hj (by have:=HHB.out;omega)⟩
   exact (h2.trans hmw (fun j hj=> .inr (by have:=HDL.out;have:=HBQ.out.size;omega))).bel
 ·rintro D xs Y W hD ⟨hy2,hbx,hfl⟩ hmv hYs hDd hYD
  refine qw hDd (fun w' hmw=>⟨.bool false,qf rfl _ _ _ rfl ?_,?_⟩)
  ·have h2:Boxed w' (hb+2) 4 (.bool false):=(hmw.block (hb+2) hbx.lt (fun e=>hYD (e ▸ hy2))).trans hbx
   exact zz h2
  ·rw[hfl]
   refine⟨rfl,?_⟩;have h1:Mv (fun k=>k=hb∨k=hb+1∨k=hb+2) w W:=(Mv.of_bel HBQ.out).trans hmv (fun j hj=> .inl hj);have h2:Mv (fun _=>False) w W:=⟨h1.os,h1.tape,h1.output,h1.size,fun j hj _=>h1.block j hj (by have:=HHB.out;omega)⟩
   exact (h2.trans hmw (fun j hj=> .inr (by have:=HBQ.out.size;omega))).bel
end Go.Proofs.YtfpoelklhekfaaaGreatDoor.Mu
