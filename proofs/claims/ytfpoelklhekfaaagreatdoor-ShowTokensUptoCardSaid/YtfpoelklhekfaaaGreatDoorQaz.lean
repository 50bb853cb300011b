import Derived.Test.YtfpoelklhekfaaaGreatDoorQax
import Derived.Test.YtfpoelklhekfaaaGreatDoorQay
open Go.Lib (hid)
namespace Go.Proofs.YtfpoelklhekfaaaGreatDoor.Mu
set_option maxHeartbeats 2000000
open Go Go.RowKit Go.Shelf
attribute [local go_sem] Oper.semAt_some
set_option linter.unusedVariables false
set_option maxRecDepth 100000
theorem Ze(A:Option Addr)(n c:Nat)(w:World):Calls Tryz.prog 69 #[.slice A n c,.func (.func 34) #[] #[]] w fun e w'=>e=.returned (.func (.func 116) #[] #[.pointer (some ⟨w.heap.size,0,none⟩),.pointer (some ⟨w.heap.size+1,0,none⟩)])/\w'=(w.alloc (.cells #[.slice A n c] 40)).alloc (.cells #[.func (.func 34) #[] #[]] 98):=by
 go_enter Tryz.func69,Tryz.ntmps69
 go_wp2
 go_ret
 exact⟨rfl,rfl⟩
theorem Z8(k:Int)(s:List UInt8)(n:Int)(p:Pl)(A:Option Addr)(c:Nat)(B:Option Addr)(bc:Nat)(kids arms:Tr)(w:World)(hk:KidsTr w (OldT w) .ex A kids.len c kids)(ha:KidsTr w (OldT w) .arms B arms.len bc arms)(hsz:kids.size+arms.size<=1000000) :
  Calls Tryz.prog 35 #[.agg #[.int .u8 k,.string ⟨s.toArray⟩,n,p.a,p.l,p.c,.slice A kids.len c,.slice B arms.len bc]] w fun e w'=>e=.returned (.int .i64 ((1+arms.pdepth:Nat):Int))/\Bel w w':=by
 have HP:Hid (∀ W,Bel w W->Calls Tryz.prog 72 #[.agg #[.int .u8 k,.string ⟨s.toArray⟩,n,p.a,p.l,p.c,.slice A kids.len c,.slice B arms.len bc]] W (ji W (OldT W) .pat arms.pats)):=hid fun W hW=>zt k s n p A c B bc kids arms (OldT W) W (hk.bel hW) (ha.bel hW) (fun _ h=>h) (by have:=kids.len_le;omega) (by have:=arms.len_le;omega);have hps:arms.pats.size<=1000000:=by have:=arms.pats_size;omega
 have HPS:=hid hps;obtain⟨pd,hpd⟩:∃ pd,pd=arms.pdepth:=⟨_,rfl⟩
 have hpb:pd<=1000000:=by rw[hpd];have:=arms.pdepth_le;have:=arms.depth_le;omega
 have HD:Hid (∀ (A2:Option Addr) (c2:Nat) (W:World),KidsTr W (OldT W) .pat A2 arms.pats.len c2 arms.pats->Calls Tryz.prog 71 #[.slice A2 arms.pats.len c2,.func (.func 73) #[] #[],.func (.func 74) #[] #[]] W fun e w'=>e=.returned (.int .i64 (pd:Int))/\Bel W w'):=hid fun A2 c2 W h=>by
  rw[hpd,<- Tr.pats_depth];exact qbS A2 arms.pats.len c2 arms.pats W h HPS.out
 rw[<- hpd];obtain⟨pl,hpl⟩:∃ pl,pl=arms.pats.len:=⟨_,rfl⟩
 have HPL:=hid hpl;rw[<- hpl]at HD;obtain⟨l1,hl1⟩:∃ l,l=kids.len:=⟨_,rfl⟩
 obtain⟨l2,hl2⟩:∃ l,l=arms.len:=⟨_,rfl⟩
 obtain⟨SS,hSS⟩:∃ S:ByteArray,S=⟨s.toArray⟩:=⟨_,rfl⟩
 rw[<- hl1,<- hl2,<- hSS]at HP ⊢;clear hk ha hsz hps hpd hpl hl1 hl2 hSS;go_enter Tryz.func35,Tryz.ntmps35
 go_wp2_with fail
 have hb1:Bel w (w.alloc (.cells #[.int .u8 k,SS,n,p.a,p.l,p.c,.slice A l1 c,.slice B l2 bc] 43)):=(Bel.refl w).alloc _;have HB1:=hid hb1;clear hb1;refine (HP.out _ HB1.out).mono ?_;rintro e w2 ⟨A2,c2,rfl,hb2,hk2⟩;have HB2:=hid (HB1.out.on hb2);have HK2:Hid (KidsTr w2 (OldT w2) .pat A2 pl c2 arms.pats):=hid (by rw[HPL.out];exact hk2.wide fun j hj=>by rcases hj with h | h;exact Nat.lt_of_lt_of_le h hb2.size;exact h.2);rw[<- HPL.out];clear hb2 hk2 HP;go_wp2_with fail
 refine (HD.out A2 c2 w2 HK2.out).mono ?_;rintro e w3 ⟨rfl,hb3⟩;have HB3:=hid (HB2.out.on hb3);clear hb3;go_wp2_with fail
 go_ret
 exact⟨by simp,HB3.out⟩
theorem qbU(A:Option Addr)(n c:Nat)(f:Tr)(w:World)(hk:KidsTr w (OldT w) .ex A n c f)(hsz:f.size<=1000000) :
  Calls Tryz.prog 33 #[.slice A n c,.func (.func 34) #[] #[],.func (.func 35) #[] #[]] w fun e w'=>e=.returned (.int .i64 (f.depth:Int))/\Bel w w':=by
 have HK:=hid hk;clear hk;refine (callsIn_wide (n:=6)).1 ?_;refine callsIn_of_wp_marks Tryz.func33 rfl trivial ?_ rfl;simp only[Tryz.ntmps33,List.size_toArray,List.length_cons,List.length_nil,Nat.reduceAdd,Nat.reduceSub,Array.replicate_succ,Array.replicate_zero,List.push_toArray,List.append_toArray,List.nil_append,List.cons_append];gi_wp2_with (refine⟨trivial,?_⟩;gi_at_call 69;refine (callsIn_wide.2 (Ze _ _ _ _)).mono ?_;rintro e w2 ⟨rfl,rfl⟩)
 obtain⟨hb,hhb⟩:∃ hb,hb=w.heap.size:=⟨_,rfl⟩
 obtain⟨wq,hwq⟩:∃ wq,wq=(((w.alloc (.cells #[.func (.func 35) #[] #[]] 99)).alloc (.cells #[.int .i64 0] 3)).alloc (.cells #[.slice A n c] 40)).alloc (.cells #[.func (.func 34) #[] #[]] 98):=⟨_,rfl⟩
 have hbq:Bel w wq:=by rw[hwq];exact ((((Bel.refl w).alloc _).alloc _).alloc _).alloc _
 have hsq:wq.heap.size=hb+4:=by rw[hwq,hhb];simp
 have hq4:=blk4 w (.cells #[.func (.func 35) #[] #[]] 99) (.cells #[.int .i64 0] 3) (.cells #[.slice A n c] 40) (.cells #[.func (.func 34) #[] #[]] 98);rw[<- hwq,<- hhb]at hq4;obtain⟨q0,q1,q2,q3⟩:=hq4;replace q0:Boxed wq hb 99 (.func (.func 35) #[] #[]):=q0
 replace q1:Boxed wq (hb+1) 3 (.int .i64 0):=q1
 replace q2:Boxed wq (hb+2) 40 (.slice A n c):=q2
 replace q3:Boxed wq (hb+3) 98 (.func (.func 34) #[] #[]):=q3
 rw[<- hwq,<- hhb];have HBQ:=hid hbq;have HHB:=hid hhb;have HSQ:=hid hsq;have Q0:=hid q0;have Q1:=hid q1;have Q2:=hid q2;have Q3:=hid q3;clear hwq hbq hsq q0 q1 q2 q3 hhb;refine zg (α:=Nd) (gf:=116) (lb:=#[.pointer (some ⟨hb+2,0,none⟩),.pointer (some ⟨hb+3,0,none⟩)]) rfl (fun args w=>by kernel_rfl) (encs:=encX) (Zf A n c (hb+2) (hb+3) f hsz) (fun _=>rfl)
  (fun pre x Y W W' h hs hk=>⟨h.1,h.2.keep (fun j hj=>hk j hj.1 hj.2) (fun j hj=>⟨Nat.lt_of_lt_of_le hj.1 hs,hj.2⟩)⟩)
  (fun xs Y W=>(∀ k,Y k↔(k=hb∨k=hb+1))/\Boxed W hb 99 (.func (.func 35) #[] #[])/\Boxed W (hb+1) 3 (.int .i64 (vmax hdE 0 (xs.map Nd.v):Nat))/\hb+4<=W.heap.size) (fun _ _ _=>False) ?_ (fun _ _ _ _ h _ _=>h)
  (Y0:=fun k=>k=hb∨k=hb+1) ?_ (fun k hk=>by have:=HSQ.out;omega) ⟨fun _=>Iff.rfl,Q0.out,Q1.out,by rw[HSQ.out];exact Nat.le_refl _⟩
  (fun x bx=>{ tmps:=#[.slice A n c,.func (.func 34) #[] #[],.func (.func 35) #[] #[],undef,undef,.pointer (some ⟨hb,0,none⟩),(0:Int),.pointer (some ⟨hb+1,0,none⟩),x.v.d,.pointer (some ⟨bx,0,none⟩),.slice A n c,.func (.func 34) #[] #[],.func (.func 116) #[] #[.pointer (some ⟨hb+2,0,none⟩),.pointer (some ⟨hb+3,0,none⟩)],x.v.d,.agg #[.int .u8 x.v.k,.string ⟨x.v.s.toArray⟩,x.v.n,x.p.a,x.p.l,x.p.c,.slice x.A x.v.kids.len x.ca,.slice x.B x.v.arms.len x.cb],undef,undef,undef,undef,undef,undef,undef,undef],defers:=[] })
  (fun x=> .cells #[.int .u8 x.v.k,.string ⟨x.v.s.toArray⟩,x.v.n,x.p.a,x.p.l,x.p.c,.slice x.A x.v.kids.len x.ca,.slice x.B x.v.arms.len x.cb] 43) ?_ ?_ ?_ ?_
 ·rintro s Y W W' ⟨h1,h2,h3,h4⟩ hs hk
  exact⟨h1,(hk hb ((h1 hb).2 (.inl rfl))).trans h2,(hk (hb+1) ((h1 _).2 (.inr rfl))).trans h3,Nat.le_trans h4 hs⟩
 ·rintro Y W hbW hY
  have hn:∀ j,Y j->hb<=j/\j≠hb+2/\j≠hb+3:=fun j hj=>by
   have:=HSQ.out;rcases hY j hj with (h | h) | h <;> omega
  refine⟨hbW.blk Q2.out,hbW.blk Q3.out,(HK.out.keep (fun j hj=>(HBQ.out.on hbW).block j hj)).wide (fun j hj=>⟨Nat.lt_of_lt_of_le hj (HBQ.out.on hbW).size,fun h=>?_⟩),fun h=>(hn _ h).2.1 rfl,fun h=>(hn _ h).2.2 rfl⟩;have h1:=(hn j h).1;have h2:j<w.heap.size:=hj;rw[HHB.out]at h1;omega
 ·rintro l x W K hK
  have HKK:=hid hK;clear hK;simp only[encX];gi_wp2
  exact HKK.out
 ·rintro l bx pre x Y W hbx1 hbx2 hob hYb ⟨Y',hYY,⟨suf,hpre⟩,hat⟩ hmv0 hYl ⟨hY,hi1,hi2,hi3⟩ hYs
  have hmem:x.v∈f.pre 0:=by rw[hpre];simp
  have hvs:=Tr.pre_size f 0 x.v hmem;have HVS:Hid (x.v.kids.size+x.v.arms.size<=1000000/\x.v.d<=1000000):=hid (by omega);have HAT:=hid hat;have HYS:=hid hYs;have HY:=hid hY;have HYY:=hid hYY;have HI1:=hid hi1;have HI2:=hid hi2;have HI3:=hid hi3;have HBX:=hid hbx1;obtain⟨m,hm⟩:∃ m,m=vmax hdE 0 (pre.map Nd.v):=⟨_,rfl⟩
  rw[<- hm]at HI2 hi2;have HM:=hid hm;obtain⟨xv,xp,xA,xca,xB,xcb⟩:=x;obtain⟨d,k,s,nn,kids,arms⟩:=xv;obtain⟨l1,hl1⟩:∃ l,l=kids.len:=⟨_,rfl⟩
  obtain⟨l2,hl2⟩:∃ l,l=arms.len:=⟨_,rfl⟩
  obtain⟨SS,hSS⟩:∃ S:ByteArray,S=⟨s.toArray⟩:=⟨_,rfl⟩
  obtain⟨hv,hhv⟩:∃ hv,hv=hdE ⟨d,k,s,nn,kids,arms⟩:=⟨_,rfl⟩
  have HHV:=hid hhv;simp only at HAT HVS hob ⊢;have HC:Hid (∀ W',Bel W W'->Calls Tryz.prog 35 #[.agg #[.int .u8 k,.string ⟨s.toArray⟩,nn,xp.a,xp.l,xp.c,.slice xA kids.len xca,.slice xB arms.len xcb]] W' fun e w'=>e=.returned (.int .i64 (hv:Int))/\Bel W' w'):=hid fun W' hW'=>by
   rw[hhv,show hdE ⟨d,k,s,nn,kids,arms⟩=1+arms.pdepth from rfl];rcases HAT.out.2 with ⟨_,ha⟩ | ⟨e | e,_⟩
   ·exact Z8 k s nn xp xA xca xB xcb kids arms W' ((HAT.out.1.keep fun j hj=>hW'.block j hj.1).wide fun j hj=>Nat.lt_of_lt_of_le hj.1 hW'.size) ((ha.keep fun j hj=>hW'.block j hj.1).wide fun j hj=>Nat.lt_of_lt_of_le hj.1 hW'.size) HVS.out.1
   ·cases e
   ·cases e
  simp only[<- hl1,<- hl2,<- hSS]at hob HC ⊢;have hvb:hv<=1000001:=by rw[hhv];simp only[hdE];have:=arms.pdepth_le;have:=arms.depth_le;have:=HVS.out.1;omega
  have hdb:d<=1000000:=HVS.out.2;obtain⟨x0,x1,x2,x3,x4,x5,x6,x7⟩:=box8 hob;have eg:∀ args w,(callFunc 35 args).run Tryz.prog w=.ok (.enter 35 args) w:=fun args w=>by kernel_rfl
  have y0:=qa hbx2 x0;have y1:=qa hbx2 x1;have y2:=qa hbx2 x2;have y3:=qa hbx2 x3;have y4:=qa hbx2 x4;have y5:=qa hbx2 x5;have y6:=qa hbx2 x6;have y7:=qa hbx2 x7;have z0:=qa (by have:=HI3.out;omega) hi1.cell;have z1:=qa (by have:=HI3.out;omega) hi2.cell;clear hmv0 hpre hmem hvs hat hYs hY hYY hi1 hi2 hi3 hob hYl hbx1 hYb hl1 hl2 hSS hhv hm;gi_wp2_with fail
  refine q9 7 (by kernel_rfl) (by kernel_rfl) (fun ⟨_,_,h⟩=>h) (by kernel_rfl) ?_;simp only[List.take_succ_cons,List.take_zero,List.drop_succ_cons,List.drop_zero];repeat (go_big_quiet_step (exact (HC.out _ (Abw.bel _)).mono fun e w h=>⟨h.1,⟨_,(Abw.bel _).on h.2⟩,rfl⟩))
  refine wpQuiet_nil ?_;rintro w4 ⟨⟨w4,hb4⟩,rfl⟩;have HB4:=hid hb4;have f1:w4.cell? ⟨hb+1,0,none⟩=some (.int .i64 (m:Int)):=z1 ⟨w4,hb4⟩;have f2:w4.frozen? ⟨hb+1,0,none⟩=false:=Boxed.frozen (hb4.blk HI2.out);clear z0 z1 x0 x1 x2 x3 x4 x5 x6 x7 y0 y1 y2 y3 y4 y5 y6 y7;go_wp2_with fail
  have hB1:Boxed w4 hb 99 (.func (.func 35) #[] #[]):=HB4.out.blk HI1.out;have hB2:Boxed w4 (hb+1) 3 (.int .i64 (m:Int)):=HB4.out.blk HI2.out;refine⟨Mv.set_ (p:=⟨hb+1,0,none⟩) (Mv.of_bel HB4.out) (.inl ((HY.out (hb+1)).2 (.inr rfl))) _,Y,⟨HY.out,hB1.other (by omega) _,?_,by have:=HB4.out.size;have:=HI3.out;simp;omega⟩,fun j hj=>⟨by have:=HB4.out.size;have:=HYS.out j hj;simp;omega,.inl hj⟩⟩;have e:((vmax hdE 0 (List.map Nd.v (pre++[⟨⟨d,k,s,nn,kids,arms⟩,xp,xA,xca,xB,xcb⟩])):Nat):Int)=max (m:Int) ((d:Int)+(hv:Int)):=by
   rw[List.map_append,List.map_cons,List.map_nil,Q9,<- HM.out,<- HHV.out];simp only;omega
  rw[e];exact hB2.set _
 ·rintro D xs Y W hD hfin ⟨hY,hi1,hi2,hi3⟩ hmv hYs hDd hYD
  have HI:=hid hi2;have HFIN:=hid hfin;have HMV:=hid hmv;have HDD:=hid hDd;have HDL:=hid hD;have c1:=hi2.cell;clear hY hi1 hi2 hi3 hmv hYs hDd hYD hfin hD;simp only[Exit.inBlock,Exit.then];gi_wp2
  refine qw HDD.out (fun w' hmw=>⟨_,results_tmp rfl _ _ _,?_⟩);refine⟨?_,?_⟩
  ·have hk':=HK.out
   rw[show f.depth=vmax hdE 0 (xs.map Nd.v) by rw[HFIN.out,Tr.depth_pre f (hk'.isNods (by intro e;cases e)) hk'.ok]];rfl
  ·have h1:Mv (fun k=>k=hb∨k=hb+1) w W:=(Mv.of_bel HBQ.out).trans HMV.out (fun j hj=> .inl hj)
   have h2:Mv (fun _=>False) w W:=⟨h1.os,h1.tape,h1.output,h1.size,fun j hj _=>h1.block j hj (by have:=HHB.out;omega)⟩
   exact (h2.trans hmw (fun j hj=> .inr (by have:=HDL.out;have:=HBQ.out.size;omega))).bel
 ·rintro D xs Y W _ h
  exact h.elim
end Go.Proofs.YtfpoelklhekfaaaGreatDoor.Mu
