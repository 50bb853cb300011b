import Derived.Test.YtmloadclmjcbbaaGreatDoorRai
open Go.Lib (hid)
namespace Go.Proofs.YtmloadclmjcbbaaGreatDoor.Mu
set_option maxHeartbeats 2000000
open Go Go.RowKit Go.Shelf
attribute [local go_sem] Oper.semAt_some
set_option linter.unusedVariables false
set_option maxRecDepth 100000
theorem qb7(k:Int)(s:LU)(n:Int)(p:Pl)(A:OA)(c:Nat)(B:OA)(bc:Nat)(kids arms:Tr)(r:Int)(Q:Nat)(hr:r=(Q:Int)+1)(hQ:Q<=1000000)(dd:Nat)(w:World)(hk:KidsTr w (OldT w) .ex A kids.len c kids)(ha:KidsTr w (OldT w) .arms B arms.len bc arms)(hsz:kids.size+arms.size<=1000000)(ht:Tbl w)(hf:fitN s n)(hai:arms.ints) :
  Calls Tryz.prog 26 #[.int .i64 r,.agg #[.int .u8 k,.string ⟨s.toArray⟩,n,p.a,p.l,p.c,.slice A kids.len c,.slice B arms.len bc]] w fun e w'=>e=.returned (.bool (hdX hEf hPf (Q+1) ⟨dd,k,s,n,kids,arms⟩))/\Bel w w':=by
 have HR:Hid (∀ W,Calls Tryz.prog 60 #[.agg #[.int .u8 k,.string ⟨s.toArray⟩,n,p.a,p.l,p.c,.slice A kids.len c,.slice B arms.len bc]] W fun e w'=>e=.returned (.tuple #[.agg #[.int .u8 (exR k s).1,.int .i64 (exR k s).2.1],.bool (exR k s).2.2])/\Bel W w'):=hid fun W=>ZI k s n p A kids.len c B arms.len bc W;have HKP:Hid (∀ W,Bel w W->Calls Tryz.prog 61 #[.agg #[.int .u8 (exR k s).1,.int .i64 (exR k s).2.1],.string ⟨s.toArray⟩,n,(kids.len:Int)] W fun e w'=>e=.returned (.bool (keepB (exR k s).1 (exR k s).2.1 s n kids.len))/\Bel W w'):=hid fun W hW=>Jr (exR k s).1 (exR k s).2.1 s n kids.len W (ht.bel hW) hf.1 hf.2.1 hf.2.2;have HP:Hid (∀ W,Bel w W->Calls Tryz.prog 63 #[.agg #[.int .u8 k,.string ⟨s.toArray⟩,n,p.a,p.l,p.c,.slice A kids.len c,.slice B arms.len bc]] W (Qu W (OldT W) .pat arms.pats)):=hid fun W hW=>jr k s n p A c B bc kids arms (OldT W) W (hk.bel hW) (ha.bel hW) (fun _ h=>h) (by have:=kids.len_le;omega) (by have:=arms.len_le;omega);have hps:arms.pats.size<=1000000:=by have:=arms.pats_size;omega
 obtain⟨ab,hab⟩:=nW ((arms.pats.pre 0).all (zR (hdP hPf) Q));have HM:Hid (∀ (A2:OA) (c2:Nat) (W:World),Bel w W->KidsTr W (OldT W) .pat A2 arms.pats.len c2 arms.pats->Calls Tryz.prog 62 #[.int .i64 (r-1),.slice A2 arms.pats.len c2,.func (.func 64) #[] #[],.func (.func 65) #[] #[]] W fun e w'=>e=.returned (.bool ab)/\Bel W w'):=hid fun A2 c2 W hW h=>by
  rw[hab,show r-1=(Q:Int) by omega];exact qdH Q A2 arms.pats.len c2 arms.pats W h hps hQ (ht.bel hW) (Tr.pats_ints arms hai)
 have hrl:-9223372036854775808<=r-1/\r-1<=9223372036854775807:=by omega
 obtain⟨hr1,hr2⟩:=hrl;have ev:hdX hEf hPf (Q+1) ⟨dd,k,s,n,kids,arms⟩=(((exR k s).2.2&&(keepB (exR k s).1 (exR k s).2.1 s n kids.len&&(decide (0<arms.len)==decide (k=8))))&&ab):=by rw[hab];rfl
 rw[ev];obtain⟨tk,htk⟩:=nW ((exR k s).1);obtain⟨kc,hkc⟩:=nW ((exR k s).2.1);obtain⟨ok,hok⟩:=nW ((exR k s).2.2);rw[<- htk,<- hkc,<- hok]at HR;rw[<- htk,<- hkc]at HKP;rw[<- htk,<- hkc,<- hok];obtain⟨kb,hkb⟩:=nW (keepB tk kc s n kids.len);obtain⟨SS,hSS⟩:=nW (⟨s.toArray⟩:BA);obtain⟨l1,hl1⟩:=nW kids.len;obtain⟨l2,hl2⟩:=nW arms.len;obtain⟨pl,hpl⟩:=nW arms.pats.len;rw[<- hkb,<- hSS,<- hl1]at HKP;rw[<- hSS,<- hl1,<- hl2]at HR HP;rw[<- hpl]at HM;rw[<- hkb,<- hSS,<- hl1,<- hl2];have HPL:=hid hpl;clear ht hf htk hkc hok hkb hSS hl1 hl2 hpl hk ha hsz hai hps hab ev hr hQ;have hb1:Bel w (w.alloc (.cells #[.int .u8 k,SS,n,p.a,p.l,p.c,.slice A l1 c,.slice B l2 bc] 28)):=(Bel.refl w).alloc _;have q1:=blk1 w (.cells #[.int .u8 k,SS,n,p.a,p.l,p.c,.slice A l1 c,.slice B l2 bc] 28);have HB1:=hid hb1;have HQ1:=hid q1;clear hb1 q1;go_enter Tryz.func26,Tryz.ntmps26;go_wp2_with fail;refine (HR.out _).mono ?_;rintro e w2 ⟨rfl,hb2⟩;have HB2:=hid (HB1.out.on hb2);have q2:=hb2.blk HQ1.out;obtain⟨x0,x1,x2,x3,x4,x5,x6,x7⟩:=box8 q2;have hlt:w.heap.size<w2.heap.size:=(aJ.1 q2).1;have HQ2:=hid q2;clear hb2 q2 HR;cases ok
 ·go_wp2_with fail
  go_ret;exact⟨rfl,HB2.out.alloc _⟩
 ·go_wp2_with fail
  refine (HKP.out _ (HB2.out.alloc _)).mono ?_;rintro e w3 ⟨rfl,hb3⟩;have HB3:=hid ((HB2.out.alloc _).on hb3);have q3:=hb3.blk (((Bel.refl w2).alloc _).blk HQ2.out);have z0:=w3;have z1:=True;clear x0 x1 x2 x3 x4 x5 x6 x7 hb3 HKP;obtain⟨x0,x1,x2,x3,x4,x5,x6,x7⟩:=box8 q3;have hlt3:w.heap.size<w3.heap.size:=(aJ.1 q3).1;clear q3;cases kb
  ·go_wp2_with fail
   go_ret;exact⟨rfl,HB3.out⟩
  rcases zPp l2 with ha0 | ha0 <;> by_cases k8:k=8
  ·subst ha0 k8
   go_wp2_with fail;go_ret;exact⟨rfl,HB3.out⟩
  ·subst ha0
   have d8:(k==8)=false:=by simpa using k8
   have d9:decide (k=8)=false:=by simpa using k8
   go_wp2_with fail;refine (HP.out _ HB3.out).mono ?_;rintro e w4 ⟨A2,c2,rfl,hb4,hk4⟩;have HB4:=hid (HB3.out.on hb4);have HK4:Hid (KidsTr w4 (OldT w4) .pat A2 pl c2 arms.pats):=hid (by rw[HPL.out];exact hk4.wide fun j hj=>by rcases hj with h | h;exact lT h hb4.size;exact h.2);rw[<- HPL.out];clear hb4 hk4 x0 x1 x2 x3 x4 x5 x6 x7 z0 z1;go_wp2_with fail;refine (HM.out A2 c2 w4 HB4.out HK4.out).mono ?_;rintro e w5 ⟨rfl,hb5⟩;have HB5:=hid (HB4.out.on hb5);clear hb5;go_wp2_with fail;go_ret;exact⟨by simp[k8],HB5.out⟩
  ·subst k8
   have d10:decide ((0:Int)<(l2:Int))=true:=by simp;omega
   have d11:decide (0<l2)=true:=by simpa using ha0
   go_wp2_with fail;refine (HP.out _ HB3.out).mono ?_;rintro e w4 ⟨A2,c2,rfl,hb4,hk4⟩;have HB4:=hid (HB3.out.on hb4);have HK4:Hid (KidsTr w4 (OldT w4) .pat A2 pl c2 arms.pats):=hid (by rw[HPL.out];exact hk4.wide fun j hj=>by rcases hj with h | h;exact lT h hb4.size;exact h.2);rw[<- HPL.out];clear hb4 hk4 x0 x1 x2 x3 x4 x5 x6 x7 z0 z1;go_wp2_with fail;refine (HM.out A2 c2 w4 HB4.out HK4.out).mono ?_;rintro e w5 ⟨rfl,hb5⟩;have HB5:=hid (HB4.out.on hb5);clear hb5;go_wp2_with fail;go_ret;exact⟨by simp,HB5.out⟩
  ·have d8:(k==8)=false:=by simpa using k8
   have d9:decide (k=8)=false:=by simpa using k8
   have d10:decide ((0:Int)<(l2:Int))=true:=by simp;omega
   have d11:decide (0<l2)=true:=by simpa using ha0
   go_wp2_with fail;go_ret;exact⟨by simp[d9,d11],HB3.out⟩
theorem qah(R:Nat)(A:OA)(n c:Nat)(f:Tr)(w:World)(hk:KidsTr w (OldT w) .ex A n c f)(hsz:f.size<=1000000)(hR:R<=1000000)(ht:Tbl w)(hin:f.ints) :
  Calls Tryz.prog 24 #[.int .i64 (R:Int),.slice A n c,.func (.func 25) #[] #[],.func (.func 26) #[] #[]] w fun e w'=>e=.returned (.bool ((f.pre 0).all (zR (hdX hEf hPf) R)))/\Bel w w':=by
 have HK:=hid hk;have HT:=hid ht;have HIN:=hid hin;clear hk ht hin;obtain⟨SF,hSF⟩:=nW (zR (hdX hEf hPf) R:Vis->Bool);have HSF:=hid hSF;rw[<- hSF];clear hSF;refine (callsIn_wide (n:=6)).1 ?_;refine callsIn_of_wp_marks Tryz.func24 rfl trivial ?_ rfl;simp only[Tryz.ntmps24,List.size_toArray,lC,lNn,Nat.reduceAdd,Nat.reduceSub,Array.replicate_succ,Array.replicate_zero,List.push_toArray,List.append_toArray,List.nil_append,cAa];gi_wp2_with (refine⟨trivial,?_⟩;gi_at_call 58;refine (callsIn_wide.2 (JO _ _ _ _)).mono ?_;rintro e w2 ⟨rfl,rfl⟩);obtain⟨hb,hhb⟩:=nW w.heap.size;obtain⟨wq,hwq⟩:=nW (((((w.alloc (.cells #[.int .i64 (R:Int)] 3)).alloc (.cells #[.func (.func 26) #[] #[]] 72)).alloc (.cells #[.bool false] 4)).alloc (.cells #[.slice A n c] 25)).alloc (.cells #[.func (.func 25) #[] #[]] 71));have hbq:Bel w wq:=by rw[hwq];exact (((((Bel.refl w).alloc _).alloc _).alloc _).alloc _).alloc _
 have hsq:wq.heap.size=hb+5:=by rw[hwq,hhb];simp
 have hq4:=blk5 w (.cells #[.int .i64 (R:Int)] 3) (.cells #[.func (.func 26) #[] #[]] 72) (.cells #[.bool false] 4) (.cells #[.slice A n c] 25) (.cells #[.func (.func 25) #[] #[]] 71);rw[<- hwq,<- hhb]at hq4;obtain⟨q0,q1,q2,q3,q4⟩:=hq4;replace q0:Boxed wq hb 3 (.int .i64 (R:Int)):=q0;replace q1:Boxed wq (hb+1) 72 (.func (.func 26) #[] #[]):=q1;replace q2:Boxed wq (hb+2) 4 (.bool false):=q2;replace q3:Boxed wq (hb+3) 25 (.slice A n c):=q3;replace q4:Boxed wq (hb+4) 71 (.func (.func 25) #[] #[]):=q4;rw[<- hwq,<- hhb];have HBQ:=hid hbq;have HHB:=hid hhb;have HSQ:=hid hsq;have Q0:=hid q0;have Q1:=hid q1;have Q2:=hid q2;have Q3:=hid q3;have Q4:=hid q4;clear hwq hbq hsq q0 q1 q2 q3 q4 hhb;refine jd (α:=Nd) (gf:=104) (lb:=#[.pointer (some ⟨hb+3,0,none⟩),.pointer (some ⟨hb+4,0,none⟩)]) rfl (fun args w=>by kernel_rfl) (encs:=encX) (JP A n c (hb+3) (hb+4) f hsz) (fun _=>rfl)
  (fun pre x Y W W' h hs hk=>⟨h.1,h.2.keep (fun j hj=>hk j hj.1 hj.2) (fun j hj=>⟨lT hj.1 hs,hj.2⟩)⟩)
  (fun xs Y W=>(∀ k,Y k↔(k=hb∨k=hb+1∨k=hb+2))/\Boxed W hb 3 (.int .i64 (R:Int))/\Boxed W (hb+1) 72 (.func (.func 26) #[] #[])/\Boxed W (hb+2) 4 (.bool false)/\hb+5<=W.heap.size/\(xs.map Nd.v).all SF=true)
  (fun xs Y W=>Y (hb+2)/\Boxed W (hb+2) 4 (.bool false)/\(f.pre 0).all SF=false) ?_ (fun s Y W W' h _ hk=>⟨h.1,(hk _ h.1).trans h.2.1,h.2.2⟩)
  (Y0:=fun k=>k=hb∨k=hb+1∨k=hb+2) ?_ (fun k hk=>by have:=HSQ.out;omega) ⟨fun _=>Iff.rfl,Q0.out,Q1.out,Q2.out,by rw[HSQ.out];exact lR _,rfl⟩
  (fun x bx=>{ tmps:=#[.int .i64 (R:Int),.slice A n c,.func (.func 25) #[] #[],.func (.func 26) #[] #[],.pointer (some ⟨hb,0,none⟩),undef,undef,.pointer (some ⟨hb+1,0,none⟩),.pointer (some ⟨hb+2,0,none⟩),x.v.d,.pointer (some ⟨bx,0,none⟩),.slice A n c,.func (.func 25) #[] #[],.func (.func 104) #[] #[.pointer (some ⟨hb+3,0,none⟩),.pointer (some ⟨hb+4,0,none⟩)],x.v.d,.agg #[.int .u8 x.v.k,.string ⟨x.v.s.toArray⟩,x.v.n,x.p.a,x.p.l,x.p.c,.slice x.A x.v.kids.len x.ca,.slice x.B x.v.arms.len x.cb],undef,undef,undef,undef,undef,undef,undef,undef,undef,undef,undef,undef],defers:=[] })
  (fun x=> .cells #[.int .u8 x.v.k,.string ⟨x.v.s.toArray⟩,x.v.n,x.p.a,x.p.l,x.p.c,.slice x.A x.v.kids.len x.ca,.slice x.B x.v.arms.len x.cb] 28) ?_ ?_ ?_ ?_
 ·rintro s Y W W' ⟨h1,h2,h3,h4,h5,h6⟩ hs hk
  exact⟨h1,(hk hb ((h1 hb).2 (.inl rfl))).trans h2,(hk (hb+1) ((h1 _).2 (.inr (.inl rfl)))).trans h3,(hk (hb+2) ((h1 _).2 (.inr (.inr rfl)))).trans h4,lL h5 hs,h6⟩
 ·rintro Y W hbW hY
  have hn:∀ j,Y j->hb<=j/\j≠hb+3/\j≠hb+4:=fun j hj=>by
   have:=HSQ.out;rcases hY j hj with (h | h | h) | h <;> omega
  refine⟨hbW.blk Q3.out,hbW.blk Q4.out,(HK.out.keep (fun j hj=>(HBQ.out.on hbW).block j hj)).wide (fun j hj=>⟨lT hj (HBQ.out.on hbW).size,fun h=>?_⟩),fun h=>(hn _ h).2.1 rfl,fun h=>(hn _ h).2.2 rfl⟩;have h1:=(hn j h).1;have h2:j<w.heap.size:=hj;rw[HHB.out]at h1;omega
 ·rintro l x W K hK
  have HKK:=hid hK;clear hK;simp only[encX];gi_wp2;exact HKK.out
 ·rintro l bx pre x Y W hbx1 hbx2 hob hYb ⟨Y',hYY,⟨suf,hpre⟩,hat⟩ hmv0 hYl ⟨hY,hi0,hi1,hi2,hi3,hi4⟩ hYs
  have hmem:x.v∈f.pre 0:=by rw[hpre];simp
  have hvs:=Tr.pre_size f 0 x.v hmem;have HVS:Hid (x.v.kids.size+x.v.arms.size<=1000000/\x.v.d<=1000000):=hid (by omega);have HVI:=hid (Tr.pre_ints f 0 x.v hmem HIN.out);have HAT:=hid hat;have HYS:=hid hYs;have HY:=hid hY;have HI0:=hid hi0;have HI1:=hid hi1;have HI2:=hid hi2;have HI3:=hid hi3;have HI4:=hid hi4;have HPRE:=hid hpre;have HBX:=hid hbx1;have HTW:Hid (Tbl W):=hid (by
   have h1:Mv (fun k=>k=hb∨k=hb+1∨k=hb+2) w W:=(Mv.of_bel HBQ.out).trans hmv0 (fun j hj=> .inl hj);have h2:Mv (fun _=>False) w W:=⟨h1.os,h1.tape,h1.output,h1.size,fun j hj _=>h1.block j hj (by have:=HHB.out;omega)⟩
   exact HT.out.bel h2.bel)
  obtain⟨xv,xp,xA,xca,xB,xcb⟩:=x;obtain⟨d,k,s,nn,kids,arms⟩:=xv;obtain⟨l1,hl1⟩:=nW kids.len;obtain⟨l2,hl2⟩:=nW arms.len;obtain⟨SS,hSS⟩:=nW (⟨s.toArray⟩:BA);simp only at HAT HVS HVI hob ⊢;obtain⟨sb,hsb⟩:=nW ((hdX hEf hPf) (R-d) ⟨d,k,s,nn,kids,arms⟩);have HSB:Hid (SF ⟨d,k,s,nn,kids,arms⟩=(decide (d<R)&&sb)):=hid (by rw[HSF.out,hsb];rfl);have HCC:Hid (d<R->∀ W',Bel W W'->Calls Tryz.prog 26 #[.int .i64 ((R:Int)-(d:Int)),.agg #[.int .u8 k,.string ⟨s.toArray⟩,nn,xp.a,xp.l,xp.c,.slice xA kids.len xca,.slice xB arms.len xcb]] W' fun e w'=>e=.returned (.bool sb)/\Bel W' w'):=hid fun hdR W' hW'=>by
   rw[hsb];rw[show R-d=(R-d-1)+1 by omega];rcases HAT.out.2 with ⟨_,ha⟩ | ⟨e | e,_⟩
   ·exact qb7 k s nn xp xA xca xB xcb kids arms _ (R-d-1) (by omega) (by omega) d W' ((HAT.out.1.keep fun j hj=>hW'.block j hj.1).wide fun j hj=>lT hj.1 hW'.size) ((ha.keep fun j hj=>hW'.block j hj.1).wide fun j hj=>lT hj.1 hW'.size) HVS.out.1 (HTW.out.bel hW') HVI.out.1 HVI.out.2.2
   ·cases e
   ·cases e
  simp only[<- hl1,<- hl2,<- hSS]at hob HCC ⊢;have hdb:d<=1000000:=HVS.out.2;obtain⟨x0,x1,x2,x3,x4,x5,x6,x7⟩:=box8 hob;have eg:∀ args w,(callFunc 26 args).run Tryz.prog w=.ok (.enter 26 args) w:=fun args w=>by kernel_rfl
  have z0:=hi0.cell;have z1:=hi1.cell;have z2:=hi2.cell;have f2:=hi2.frozen;have hlt2:=hi2.lt;have hlt0:=hi0.lt;have hlt1:=hi1.lt;clear hpre hmem hvs hat hYs hY hYY hi0 hi1 hi2 hi3 hi4 hob hYl hbx1 hYb hl1 hl2 hSS hsb hmv0;have no:∀ W',Bel W W'->SF ⟨d,k,s,nn,kids,arms⟩=false->Mv Y W (W'.setCell ⟨hb+2,0,none⟩ (.bool false))/\∃ Y':Nat->Prop,(Y' (hb+2)/\Boxed (W'.setCell ⟨hb+2,0,none⟩ (.bool false)) (hb+2) 4 (.bool false)/\(f.pre 0).all SF=false)/\∀ k,Y' k->k<(W'.setCell ⟨hb+2,0,none⟩ (.bool false)).heap.size/\(Y k∨W.heap.size<=k):=fun W' hW' hs=>by
   have hB:Boxed W' (hb+2) 4 (.bool false):=hW'.blk HI2.out;refine⟨Mv.set_ (p:=⟨hb+2,0,none⟩) (Mv.of_bel hW') (.inl ((HY.out (hb+2)).2 (.inr (.inr rfl)))) _,Y,⟨(HY.out (hb+2)).2 (.inr (.inr rfl)),hB.set _,?_⟩,fun j hj=>⟨by have:=hW'.size;have:=HYS.out j hj;simp;omega,.inl hj⟩⟩;rw[HPRE.out,List.all_append,List.all_cons,hs];simp
  have NO:=hid no;clear no;by_cases hdR:d<R
  ·have g1:decide (R<=d)=false:=by simp;omega
   have HC:=hid (HCC.out hdR);have hRb:R<=1000000:=hR;clear HCC;cases sb
   ·gi_wp2_with (refine⟨trivial,?_⟩;gi_at_call 26;refine (CallsIn.inRound l (callsIn_wide.2 (HC.out _ (Bel.refl _)))).mono ?_;rintro e w4 ⟨rfl,hb4⟩;(have c4:=(show Boxed w4 (hb+2) 4 (.bool false) from hb4.blk HI2.out).cell);(have f4:=(show Boxed w4 (hb+2) 4 (.bool false) from hb4.blk HI2.out).frozen);(have HB4:=hid hb4);clear hb4)
    exact NO.out w4 HB4.out (by rw[HSB.out];simp)
   ·gi_wp2_with (refine⟨trivial,?_⟩;gi_at_call 26;refine (CallsIn.inRound l (callsIn_wide.2 (HC.out _ (Bel.refl _)))).mono ?_;rintro e w4 ⟨rfl,hb4⟩;(have c4:=(show Boxed w4 (hb+2) 4 (.bool false) from hb4.blk HI2.out).cell);(have f4:=(show Boxed w4 (hb+2) 4 (.bool false) from hb4.blk HI2.out).frozen);(have HB4:=hid hb4);clear hb4)
    have hB0:Boxed w4 hb 3 (.int .i64 (R:Int)):=HB4.out.blk HI0.out;have hB1:Boxed w4 (hb+1) 72 (.func (.func 26) #[] #[]):=HB4.out.blk HI1.out;have hB2:Boxed w4 (hb+2) 4 (.bool false):=HB4.out.blk HI2.out;refine⟨Mv.of_bel HB4.out,Y,⟨HY.out,hB0,hB1,hB2,lL HI3.out HB4.out.size,?_⟩,fun j hj=>⟨lT (HYS.out j hj) HB4.out.size,.inl hj⟩⟩;rw[List.map_append,List.all_append,HI4.out,List.map_cons,List.map_nil,List.all_cons,HSB.out];simp[hdR]
  ·have g1:R<=d:=by omega
   have g2:decide (R<=d)=true:=by simp;omega
   clear HCC;gi_wp2;refine⟨fun _ _=>trivial,?_⟩;gi_wp2;exact NO.out W (Bel.refl W) (by rw[HSB.out];simp[hdR])
 ·rintro D xs Y W hD hfin ⟨hY,hi0,hi1,hi2,hi3,hi4⟩ hmv hYs hDd hYD
  have HI:=hid hi2;have HFIN:=hid hfin;have HALL:=hid hi4;have HMV:=hid hmv;have HDD:=hid hDd;have HDL:=hid hD;have c1:=hi2.cell;have f1:=hi2.frozen;have hlt:=hi2.lt;have HNE:Hid (D≠hb+2):=hid (fun e=>hYD ((hY D).2 (.inr (.inr e))));clear hY hi0 hi1 hi2 hi3 hi4 hmv hYs hDd hYD hfin hD;simp only[Exit.inBlock,Exit.then];gi_wp2;have hbo:Boxed (W.setCell ⟨hb+2,0,none⟩ (.bool true)) (hb+2) 4 (.bool true):=(show Boxed W (hb+2) 4 (.bool false) from HI.out).set _;have hdd:(W.setCell ⟨hb+2,0,none⟩ (.bool true)).heap[D]?=some (.deferred (some [])):=(Below.heap_setCell W _ _ D HNE.out).trans HDD.out;refine qQ hdd (fun w' hmw=>⟨.bool true,qi rfl _ _ _ rfl ?_,?_⟩)
  ·have h2:Boxed w' (hb+2) 4 (.bool true):=(hmw.block (hb+2) hbo.lt (fun e=>HNE.out e.symm)).trans hbo
   exact jL h2
  ·have hv:(f.pre 0).all SF=true:=by rw[<- HFIN.out];exact HALL.out
   rw[hv];refine⟨rfl,?_⟩;have h1:Mv (fun k=>k=hb∨k=hb+1∨k=hb+2) w W:=(Mv.of_bel HBQ.out).trans HMV.out (fun j hj=> .inl hj);have h3:Mv (fun k=>k=hb∨k=hb+1∨k=hb+2) w (W.setCell ⟨hb+2,0,none⟩ (.bool true)):=h1.set_ (.inl (.inr (.inr rfl))) _;have h2:Mv (fun _=>False) w (W.setCell ⟨hb+2,0,none⟩ (.bool true)):=⟨h3.os,h3.tape,h3.output,h3.size,fun j hj _=>h3.block j hj (by have:=HHB.out;omega)⟩
   exact (h2.trans hmw (fun j hj=> .inr (by have:=HDL.out;have:=HBQ.out.size;omega))).bel
 ·rintro D xs Y W hD ⟨hy2,hbx,hfl⟩ hmv hYs hDd hYD
  refine qQ hDd (fun w' hmw=>⟨.bool false,qi rfl _ _ _ rfl ?_,?_⟩)
  ·have h2:Boxed w' (hb+2) 4 (.bool false):=(hmw.block (hb+2) hbx.lt (fun e=>hYD (e ▸ hy2))).trans hbx
   exact jL h2
  ·rw[hfl]
   refine⟨rfl,?_⟩;have h1:Mv (fun k=>k=hb∨k=hb+1∨k=hb+2) w W:=(Mv.of_bel HBQ.out).trans hmv (fun j hj=> .inl hj);have h2:Mv (fun _=>False) w W:=⟨h1.os,h1.tape,h1.output,h1.size,fun j hj _=>h1.block j hj (by have:=HHB.out;omega)⟩
   exact (h2.trans hmw (fun j hj=> .inr (by have:=HBQ.out.size;omega))).bel
theorem qiy:(Tryz.prog.info? 52).map (fun i=>i.size)=some 16:=by kernel_rfl
theorem qf1(w:World)(g:Nat)(hg:w.heap.size=g)(v0 v1 v2 v3 v4 v5 v6 v7 v8 v9 v10 v11 v12 v13 v14 v15:Value)(h:(#[v0,v1,v2,v3,v4,v5,v6,v7,v8,v9,v10,v11,v12,v13,v14,v15]:Array Value).all (·.oneCell')=true) :
  ((Sem.run Tryz.prog (store ⟨g,0,none⟩ v0) (w.alloc (.cells #[.int .u8 0,.string ⟨#[]⟩,(0:Int),(0:Int),(0:Int),.slice none 0 0,.slice none 0 0,.bool false,.int .u8 0,.string ⟨#[]⟩,(0:Int),(0:Int),(0:Int),(0:Int),.slice none 0 0,.slice none 0 0] 52))).andThen fun _ w1=>(Sem.run Tryz.prog (store ⟨g,1,none⟩ v1) w1).andThen fun _ w2=>(Sem.run Tryz.prog (store ⟨g,2,none⟩ v2) w2).andThen fun _ w3=>(Sem.run Tryz.prog (store ⟨g,3,none⟩ v3) w3).andThen fun _ w4=>(Sem.run Tryz.prog (store ⟨g,4,none⟩ v4) w4).andThen fun _ w5=>(Sem.run Tryz.prog (store ⟨g,5,none⟩ v5) w5).andThen fun _ w6=>(Sem.run Tryz.prog (store ⟨g,6,none⟩ v6) w6).andThen fun _ w7=>(Sem.run Tryz.prog (store ⟨g,7,none⟩ v7) w7).andThen fun _ w8=>(Sem.run Tryz.prog (store ⟨g,8,none⟩ v8) w8).andThen fun _ w9=>(Sem.run Tryz.prog (store ⟨g,9,none⟩ v9) w9).andThen fun _ w10=>(Sem.run Tryz.prog (store ⟨g,10,none⟩ v10) w10).andThen fun _ w11=>(Sem.run Tryz.prog (store ⟨g,11,none⟩ v11) w11).andThen fun _ w12=>(Sem.run Tryz.prog (store ⟨g,12,none⟩ v12) w12).andThen fun _ w13=>(Sem.run Tryz.prog (store ⟨g,13,none⟩ v13) w13).andThen fun _ w14=>(Sem.run Tryz.prog (store ⟨g,14,none⟩ v14) w14).andThen fun _ w15=>Sem.run Tryz.prog (store ⟨g,15,none⟩ v15) w15)=.ok () (w.alloc (.cells #[v0,v1,v2,v3,v4,v5,v6,v7,v8,v9,v10,v11,v12,v13,v14,v15] 52)):=by
 subst hg;have:=run_storeCells_new (P:=Tryz.prog) w 52 #[.int .u8 0,.string ⟨#[]⟩,(0:Int),(0:Int),(0:Int),.slice none 0 0,.slice none 0 0,.bool false,.int .u8 0,.string ⟨#[]⟩,(0:Int),(0:Int),(0:Int),(0:Int),.slice none 0 0,.slice none 0 0] #[v0,v1,v2,v3,v4,v5,v6,v7,v8,v9,v10,v11,v12,v13,v14,v15] qiy rfl h;simpa [go_sem,Sem.run_bind] using this
theorem qdv{w:World}{g:Nat}{t:TypeId}{x0 x1 x2 x3 x4 x5 x6 x7 x8 x9 x10 x11 x12 x13 x14 x15:Value}(h:w.heap[g]?=some (.cells #[x0,x1,x2,x3,x4,x5,x6,x7,x8,x9,x10,x11,x12,x13,x14,x15] t (0,0))) :
  w.cell? ⟨g,6,none⟩=some x6/\w.cell? ⟨g,7,none⟩=some x7/\w.cell? ⟨g,8,none⟩=some x8/\w.cell? ⟨g,9,none⟩=some x9/\w.cell? ⟨g,10,none⟩=some x10/\w.cell? ⟨g,11,none⟩=some x11/\w.cell? ⟨g,12,none⟩=some x12/\w.cell? ⟨g,13,none⟩=some x13/\w.cell? ⟨g,14,none⟩=some x14/\w.cell? ⟨g,15,none⟩=some x15:=by
 simp[World.cell?,h]
set_option maxHeartbeats 8000000
theorem qac{w:World}{g:Nat}{t:TypeId}{x0 x1 x2 x3 x4 x5 x6 x7 x8 x9 x10 x11 x12 x13 x14 x15:Value}(h:w.heap[g]?=some (.cells #[x0,x1,x2,x3,x4,x5,x6,x7,x8,x9,x10,x11,x12,x13,x14,x15] t (0,0))) :
  w.cell? ⟨g,1,none⟩=some x1/\w.cell? ⟨g,5,none⟩=some x5:=by
 simp[World.cell?,h]
def JY:Tr:= .nod 0 [] 0 ⟨0,0,0⟩ .nil .nil .nil
noncomputable def daMay (x:Dc):Bool:=x.ps.all (fun s=>mtB (1,s,0))&&x.cs.all cdMay&&mtB (2,x.nm,0)&&decide (0<x.cs.length) && !x.rc&&x.tr.same JY
def Dc.ints(x:Dc):Prop:=x.nm.length<=140737488355328/\(∀ s∈x.ps,s.length<=140737488355328)/\(∀ c∈x.cs,c.nm.length<=140737488355328/\∀ f∈c.fs,f.ints)/\x.tr.ints
theorem qb5(kd:Int)(nm:LU)(q:Pl)(PA:OA)(pc:Nat)(ps:List LU)(CA:OA)(cc:Nat)(cs:List Cd)(rc:Bool)(k:Int)(s:LU)(n:Int)(p:Pl)(A:OA)(c:Nat)(B:OA)(bc:Nat)(kids arms:Tr)(w:World)(hp:RowOf 1 SAt w (OldT w) PA ps.length pc ps)(hc:RowOf 5 CdAt w (OldT w) CA cs.length cc cs)(hk:KidsTr w (OldT w) .ex A kids.len c kids)(ha:KidsTr w (OldT w) .arms B arms.len bc arms)(hg:cs.length<=1000000/\ps.length<=1100000/\kids.size+arms.size<=900000/\∀ c∈cs,c.good)(ht:Tbl w)(hi:Dc.ints ⟨kd,nm,q,ps,cs,rc,k,s,n,p,kids,arms⟩) :
  Calls Tryz.prog 39 #[.agg #[.int .u8 kd,.string ⟨nm.toArray⟩,q.a,q.l,q.c,.slice PA ps.length pc,.slice CA cs.length cc,.bool rc,.int .u8 k,.string ⟨s.toArray⟩,n,p.a,p.l,p.c,.slice A kids.len c,.slice B arms.len bc]] w (qu (daMay ⟨kd,nm,q,ps,cs,rc,k,s,n,p,kids,arms⟩) w):=by
 have HTK:Hid (∀ W,Bel w W->Calls Tryz.prog 40 #[tokV 2 ⟨nm.toArray⟩] W (qu (mtB (2,nm,0)) W)):=hid fun W hW=>Qd 2 nm 0 ⟨0,0,0⟩ W (ht.bel hW) hi.1 (by decide) (by decide);have HX:Hid (∀ W,Bel w W->Calls Tryz.prog 15 #[.agg #[.int .u8 k,.string ⟨s.toArray⟩,n,p.a,p.l,p.c,.slice A kids.len c,.slice B arms.len bc],.agg #[.int .u8 0,.string ⟨#[]⟩,(0:Int),(0:Int),(0:Int),(0:Int),.slice none 0 0,.slice none 0 0]] W (qu ((Tr.nod k s n p kids arms .nil).same JY) W)):=hid fun W hW=>Qc k s n p A c B bc kids arms 0 [] 0 ⟨0,0,0⟩ none 0 none 0 .nil .nil W (hk.bel hW) (ha.bel hW) ⟨rfl,lR _,fun h=>absurd h (by decide)⟩ ⟨rfl,lR _,fun h=>absurd h (by decide)⟩ hg.2.2.1 (by decide);have HPR:=hid hp;have HCR:=hid hc;have HG:=hid hg.2.2.2;have HI1:=hid hi.2.1;have HI2:=hid hi.2.2.1;have HT:=hid ht;have hcl:=hg.1;have hpl:=hg.2.1;obtain⟨r,hr⟩:=nW (daMay ⟨kd,nm,q,ps,cs,rc,k,s,n,p,kids,arms⟩);rw[<- hr];obtain⟨rx,hrx⟩:=nW ((Tr.nod k s n p kids arms .nil).same JY);obtain⟨rt,hrt⟩:=nW (mtB (2,nm,0));have HR:Hid (r=(ps.all (fun s=>mtB (1,s,0))&&cs.all cdMay&&rt&&decide (0<cs.length) && !rc&&rx)):=hid (by rw[hr,hrt,hrx];rfl);rw[<- hrx]at HX;rw[<- hrt]at HTK;obtain⟨kl,hl1⟩:=nW kids.len;obtain⟨al,hl3⟩:=nW arms.len;obtain⟨pl,hl5⟩:=nW ps.length;obtain⟨cl,hl7⟩:=nW cs.length;obtain⟨S,hS⟩:=nW (⟨s.toArray⟩:BA);obtain⟨NM,hNM⟩:=nW (⟨nm.toArray⟩:BA);have HL:=hid (And.intro hl5 hl7);rw[<- hl5]at HPR hpl;rw[<- hl7]at HCR hcl;rw[<- hl1,<- hl3,<- hS]at HX;rw[<- hNM]at HTK;rw[<- hl1,<- hl3,<- hl5,<- hl7,<- hS,<- hNM];clear hp hc hk ha hg ht hi hr hrx hrt hl1 hl3 hl5 hl7 hS hNM;have hb1:Bel w (w.alloc (.cells #[.int .u8 kd,NM,q.a,q.l,q.c,.slice PA pl pc,.slice CA cl cc,.bool rc,.int .u8 k,S,n,p.a,p.l,p.c,.slice A kl c,.slice B al bc] 52)):=(Bel.refl w).alloc _;have hq1:=blk1 w (.cells #[.int .u8 kd,NM,q.a,q.l,q.c,.slice PA pl pc,.slice CA cl cc,.bool rc,.int .u8 k,S,n,p.a,p.l,p.c,.slice A kl c,.slice B al bc] 52);go_enter Tryz.func39,Tryz.ntmps39;go_wp2_with fail;obtain⟨w1,hw1⟩:=nW (w.alloc (.cells #[.int .u8 kd,NM,q.a,q.l,q.c,.slice PA pl pc,.slice CA cl cc,.bool rc,.int .u8 k,S,n,p.a,p.l,p.c,.slice A kl c,.slice B al bc] 52));rw[<- hw1]at hb1 hq1 ⊢;have HB1:=hid hb1;have HQ1:=hid hq1;have HS1:Hid (w.heap.size<w1.heap.size):=hid (aJ.1 hq1).1;clear hb1 hq1 hw1;go_loopw [10] (fun i wr=>∃ j:Nat,j<=pl/\i=.int .i64 (j:Int)/\Hid (ps.all (fun s=>mtB (1,s,0))=(ps.drop j).all (fun s=>mtB (1,s,0)))/\Hid (Bel w1 wr)) (fun i _=>pl-(intOf i).toNat)
 case atStart=>exact⟨0,zL _,rfl,hid rfl,hid (Bel.refl _)⟩
 case round=>
  obtain⟨j,hj,rfl,HRJ,HB⟩:=hrel;by_cases hlt:j<pl
  ·obtain⟨ub,uo,eA,hob,hfo⟩:=(HPR.bel jx (HB1.on HB)).2.2 (by omega)
   subst eA;obtain⟨x,hx⟩:∃ x,ps[j]?=some x:=⟨_,eG (by rw[<- HL.out.1];exact hlt)⟩
   have e1:=hfo j x hx;unfold SAt at e1;rw[Nat.mul_one]at e1;obtain⟨b,hb⟩:=nW (mtB (1,x,0));have HJD:Hid (ps.all (fun s=>mtB (1,s,0))=(b&&(ps.drop (j+1)).all (fun s=>mtB (1,s,0)))):=hid (by
    obtain⟨h1,h2⟩:=eJ.1 hx;rw[HRJ.out,List.drop_eq_getElem_cons h1,h2,List.all_cons,hb])
   have HTX:Hid (∀ W,Bel w W->Calls Tryz.prog 40 #[tokV 1 ⟨x.toArray⟩] W (qu b W)):=hid fun W hW=>by
    rw[hb];exact Qd 1 x 0 ⟨0,0,0⟩ W (HT.bel hW) (HI1 x (mGg hx)) (by decide) (by decide)
   obtain⟨X,hX⟩:=nW (⟨x.toArray⟩:BA);rw[<- hX]at e1 HTX;have i1:(0:Int)<=(j:Int):=by omega
   have i2:(j:Int)<(pl:Int):=by omega
   have kb1:ub<wr.heap.size:=hob;have HLT:=hid hlt;clear hfo hx hob hb hX;go_wp2_with fail;refine (zK _ _).mono ?_;rintro e w5 ⟨rfl,hb5⟩;have HB5:=hid (HB.on hb5);clear hb5 e1;go_wp2_with fail;refine (HTX _ (HB1.on HB5)).mono ?_;rintro e w6 ⟨rfl,hb6⟩;have HB6:=hid (HB5.on hb6);clear hb6 HTX;cases b
   ·obtain rfl:r=false:=by rw[HR.out,HJD.out];simp
    go_wp2_with fail;go_ret;exact⟨rfl,HB1.on HB6⟩
   ·have HR':Hid (ps.all (fun s=>mtB (1,s,0))=(ps.drop (j+1)).all (fun s=>mtB (1,s,0))):=hid (by rw[HJD.out];simp)
    go_wp2_with fail;go_roundw
    case rel=>exact⟨j+1,HLT,by go_num,HR',HB6⟩
    case measure=>exact mS HLT
  ·obtain rfl:j=pl:=by omega
   have HPT:Hid (ps.all (fun s=>mtB (1,s,0))=true):=hid (by rw[HRJ.out,dNn (by rw[<- HL.out.1];exact lR _)];rfl);have x6:=(qgw (HB.blk HQ1)).2;have kb:w.heap.size<wr.heap.size:=lT HS1 HB.size;go_wp2_with fail;clear x6 kb HRJ;go_loopw [22] (fun i wr=>∃ j:Nat,j<=cl/\i=.int .i64 (j:Int)/\Hid (cs.all cdMay=(cs.drop j).all cdMay)/\Hid (Bel w1 wr)) (fun i _=>cl-(intOf i).toNat)
   case atStart=>exact⟨0,zL _,rfl,hid rfl,HB⟩
   case round=>
    obtain⟨j,hj,rfl,HRJ,HBJ⟩:=hrel;by_cases hlt:j<cl
    ·obtain⟨ub,uo,eA,hob,hfo⟩:=(HCR.bel zN (HB1.on HBJ)).2.2 (by omega)
     subst eA;obtain⟨x,hx⟩:∃ x,cs[j]?=some x:=⟨_,eG (by rw[<- HL.out.2];exact hlt)⟩
     have hxm:=mGg hx;have hgx:=HG.out x hxm;have hix:=HI2.out x hxm;obtain⟨e0,e1,e2,e3,A',ca',e4,hkk⟩:=hfo j x hx;obtain⟨b,hb⟩:=nW (cdMay x);have HJD:Hid (cs.all cdMay=(b&&(cs.drop (j+1)).all cdMay)):=hid (by
      obtain⟨h1,h2⟩:=eJ.1 hx;rw[HRJ.out,List.drop_eq_getElem_cons h1,h2,List.all_cons,hb])
     obtain⟨cn,cp,fs⟩:=x;have HCM:Hid (∀ W,Bel wr W->Calls Tryz.prog 88 #[.agg #[.string ⟨cn.toArray⟩,cp.a,cp.l,cp.c,.slice A' fs.length ca']] W (qu b W)):=hid fun W hW=>by
      rw[hb];exact qdJ cn cp A' fs.length ca' fs W (hkk.bel QW hW) hgx.1 (fun f hf=>⟨hgx.2 f hf,hix.2 f hf⟩) (HT.bel ((HB1.on HBJ).on hW)) hix.1
     simp only[]at e0 e1 e2 e3 e4;obtain⟨m1,hm1⟩:=nW fs.length;obtain⟨SS,hSS⟩:=nW (⟨cn.toArray⟩:BA);rw[<- hSS,<- hm1]at HCM;rw[<- hSS]at e0;rw[<- hm1]at e4;have i1:(0:Int)<=(j:Int):=by omega
     have i2:(j:Int)<(cl:Int):=by omega
     have kb1:ub<wr.heap.size:=hob;have HLT:=hid hlt;clear hfo hkk hgx hix hxm hm1 hSS hx hob hb;go_wp2_with fail;refine (HCM _ ((Bel.refl wr).alloc _)).mono ?_;rintro e w6 ⟨rfl,hb6⟩;have HB6:=hid ((HBJ.alloc _).on hb6);clear hb6 HCM e0 e1 e2 e3 e4 kb1;cases b
     ·obtain rfl:r=false:=by rw[HR.out,HJD.out];simp
      go_wp2_with fail;go_ret;exact⟨rfl,HB1.on HB6⟩
     ·have HR':Hid (cs.all cdMay=(cs.drop (j+1)).all cdMay):=hid (by rw[HJD.out];simp)
      go_wp2_with fail;go_roundw
      case rel=>exact⟨j+1,HLT,by go_num,HR',HB6⟩
      case measure=>exact mS HLT
    ·obtain rfl:j=cl:=by omega
     have HR2:Hid (r=(rt&&decide (0<j) && !rc&&rx)):=hid (by
      rw[HR.out,HPT.out,HRJ.out,dNn (by rw[<- HL.out.2];exact lR _),<- HL.out.2];simp)
     clear HR HPT HRJ;have x1:=(qac (HBJ.blk HQ1)).1;have kb:w.heap.size<wr.heap.size:=lT HS1 HBJ.size;go_wp2_with fail;refine (Zj _ _).mono ?_;rintro e w5 ⟨rfl,hb5⟩;have HB5:=hid (HBJ.on hb5);clear hb5 x1 kb;go_wp2_with fail;refine (HTK _ (HB1.on HB5)).mono ?_;rintro e w6 ⟨rfl,hb6⟩;have HB6:=hid (HB5.on hb6);clear hb6;cases rt
     ·obtain rfl:r=false:=by rw[HR2.out];simp
      go_wp2_with fail;go_ret;exact⟨rfl,HB1.on HB6⟩
     have hq6:=HB6.blk HQ1;obtain⟨x6,x7,x8,x9,x10,x11,x12,x13,x14,x15⟩:=qdv hq6;have kb:w.heap.size<w6.heap.size:=(aJ.1 hq6).1;clear hq6;by_cases h0:0<j
     case neg=>
      obtain rfl:r=false:=by rw[HR2.out];simp[h0]
      obtain rfl:j=0:=by omega
      go_wp2_with fail;go_ret;exact⟨rfl,HB1.on HB6⟩
     cases rc
     case true=>
      obtain rfl:r=false:=by rw[HR2.out];simp
      go_wp2_with fail;go_ret;exact⟨rfl,HB1.on HB6⟩
     obtain rfl:r=rx:=by rw[HR2.out];simp[h0]
     go_wp2_with fail;refine (HX _ (HB1.on HB6)).mono ?_;rintro e w7 ⟨rfl,hb7⟩;have HB7:=hid (HB6.on hb7);clear hb7 x6 x7 x8 x9 x10 x11 x12 x13 x14 x15 kb;go_wp2_with fail;go_ret;exact⟨rfl,HB1.on HB7⟩
abbrev QG:= "write.go:42"
abbrev QH:= "write.go:48"
def regWd:List Oper:=[
 ⟨some 11,.move (.tmp 0),63,QG,#[],none⟩,
 ⟨some 12,.call ⟨.value (.func 44),#[.const (Value.string { data:=#[100,97,116,97] })],#[9]⟩,85,QG,#[],none⟩,
 ⟨some 13,.fieldAddr 52 (.tmp 3) 1,0,QG,#[],none⟩,
 ⟨some 14,.load 9 (.tmp 13),9,QG,#[⟨2,.data⟩],none⟩,
 ⟨some 15,.call ⟨.value (.func 89),#[.tmp 14],#[9]⟩,85,QG,#[⟨3,.data⟩,⟨1,.chain⟩],none⟩,
 ⟨some 16,.buildSlice 64 2 #[(0,.tmp 12),(1,.tmp 15)],64,QG,#[⟨1,.data⟩,⟨4,.data⟩],none⟩,
 ⟨some 17,.call ⟨.value (.func 43),#[.tmp 11,.tmp 16],#[63,64]⟩,0,QG,#[⟨0,.data⟩,⟨5,.data⟩,⟨4,.chain⟩],none⟩]
theorem qfF{id:Nat}(wp bx:Nat)(SS:BA)(x0 x2 x3 x4 x5 x6 x7 x8 x9 x10 x11 x12 x13 x14 x15:Value)(a0:Act)(w:World)(hx:w.drew.heap[bx]?=some (.cells #[x0,SS,x2,x3,x4,x5,x6,x7,x8,x9,x10,x11,x12,x13,x14,x15] 52 (0,0)))(Q:Exit->Act->World->Prop)
  (hend:∀ (V:Nat->Value) (w':World),Bel w.drew w'->((V 0)=.pointer (some ⟨wp,0,none⟩))->(∃ g,(V 5)=.slice (some ⟨g,0,none⟩) 2 2/\w'.heap[g]?=some (.cells #[.int .u8 5,.string ⟨#[100,97,116,97]⟩,(0:Int),(0:Int),(0:Int),(0:Int),.int .u8 2,SS,(0:Int),(0:Int),(0:Int),(0:Int)] 85 (0,0)))->wpList Tryz.prog regWd.toArray Q (regWd.drop 6) (finP regWd 6 V a0) w') (hN:a0.tmps.size=69:=by kernel_rfl) (hp0:a0.eval (.tmp 0)=.pointer (some ⟨wp,0,none⟩):=by kernel_rfl) (hp3:a0.eval (.tmp 3)=.pointer (some ⟨bx,0,none⟩):=by kernel_rfl) :
  (Code.region id regWd.toArray true).wp Tryz.prog Q a0 w:=by
 refine qW 6 69 a0 w (fun i v w=>match i with
  | 0=>v=.pointer (some ⟨wp,0,none⟩)
  | 1=>v=.agg #[.int .u8 5,.string ⟨#[100,97,116,97]⟩,(0:Int),(0:Int),(0:Int),(0:Int)]
  | 2=>v=.pointer (some ⟨bx,1,none⟩)
  | 3=>v=.string SS
  | 4=>v=.agg #[.int .u8 2,SS,(0:Int),(0:Int),(0:Int),(0:Int)]
  | 5=>∃ g,v=.slice (some ⟨g,0,none⟩) 2 2/\w.heap[g]?=some (.cells #[.int .u8 5,.string ⟨#[100,97,116,97]⟩,(0:Int),(0:Int),(0:Int),(0:Int),.int .u8 2,SS,(0:Int),(0:Int),(0:Int),(0:Int)] 85 (0,0))
  | _=>True) (by kernel_rfl) (by kernel_rfl) hN (by
   intro i v w w' hi h hb
   match i,hi,h with
   | 5,_,h=>obtain⟨g,e,hc⟩:=h;exact⟨g,e,hb.blk hc⟩
   | 0,_,h | 1,_,h | 2,_,h | 3,_,h | 4,_,h=>exact h
   | q+6,hi,_=>exact absurd hi (by omega)) ?_ ?_
 ·intro i' o hi' ho a w1 V hbel hd hpar K hK
  have p0':=dP (hpar 0 (by kernel_rfl)) hp0;have p3':=dP (hpar 3 (by kernel_rfl)) hp3;obtain⟨q1,_⟩:=qac (hbel.blk hx)
  match i',hi',ho,hd,hK with
  | 0,_,ho,hd,hK=>cases ho;exact oW hK rfl rfl (by simp[execOp,go_sem,p0'])
  | 1,_,ho,hd,hK=>cases ho;exact oK hK rfl (qf ⟨#[100,97,116,97]⟩ w1) (fun _=>rfl) (by simp[go_sem])
  | 2,_,ho,hd,hK=>cases ho;exact oW hK rfl rfl (by simp[execOp,go_sem,p3'])
  | 3,_,ho,hd,hK=>cases ho;exact oW hK rfl rfl (by simp[execOp,go_sem,dE (hd 2 13 rfl),q1])
  | 4,_,ho,hd,hK=>cases ho;exact oK hK rfl (Zj SS w1) (fun _=>rfl) (by simp[go_sem,dE (hd 3 14 rfl)])
  | 5,_,ho,hd,hK=>cases ho;refine oN rfl ?_;exact qX (v:= .slice (some ⟨w1.heap.size,0,none⟩) 2 2) (w':=w1.alloc (.cells #[.int .u8 5,.string ⟨#[100,97,116,97]⟩,(0:Int),(0:Int),(0:Int),(0:Int),.int .u8 2,SS,(0:Int),(0:Int),(0:Int),(0:Int)] 85)) (by simp[execOp,go_sem,dE (hd 1 12 rfl),dE (hd 4 15 rfl)]) (hK _ _ ((Bel.refl w1).alloc _) ⟨w1.heap.size,rfl,blk1 w1 _⟩)
  | q+6,hi,_,_,_=>exact absurd hi (by omega)
 ·intro V w' hb hF
  exact hend V w' hb (hF 0 (by omega)) (hF 5 (by omega))
def regWe:List Oper:=[
 ⟨some 39,.move (.tmp 0),63,QH,#[],none⟩,
 ⟨some 40,.load 85 (.tmp 6),85,QH,#[],none⟩,
 ⟨some 41,.fieldAddr 49 (.tmp 8) 0,0,QH,#[],none⟩,
 ⟨some 42,.load 9 (.tmp 41),9,QH,#[⟨2,.data⟩],none⟩,
 ⟨some 43,.call ⟨.value (.func 89),#[.tmp 42],#[9]⟩,85,QH,#[⟨3,.data⟩],none⟩,
 ⟨some 44,.buildSlice 64 2 #[(0,.tmp 40),(1,.tmp 43)],64,QH,#[⟨1,.data⟩,⟨4,.data⟩],none⟩,
 ⟨some 45,.call ⟨.value (.func 43),#[.tmp 39,.tmp 44],#[63,64]⟩,0,QH,#[⟨0,.data⟩,⟨5,.data⟩,⟨4,.chain⟩],none⟩]
theorem qfG{id:Nat}(wp cb hb0:Nat)(SJ CN:BA)(pa pl pc:Int)(FA:OA)(fl fc:Nat)(a0:Act)(w:World)(hx:w.drew.heap[cb]?=some (.cells #[.string CN,pa,pl,pc,.slice FA fl fc] 49 (0,0)))(ha:w.drew.heap[hb0]?=some (.cells #[.int .u8 5,SJ,(0:Int),(0:Int),(0:Int),(0:Int)] 85 (0,0)))(Q:Exit->Act->World->Prop)
  (hend:∀ (V:Nat->Value) (w':World),Bel w.drew w'->((V 0)=.pointer (some ⟨wp,0,none⟩))->(∃ g,(V 5)=.slice (some ⟨g,0,none⟩) 2 2/\w'.heap[g]?=some (.cells #[.int .u8 5,SJ,(0:Int),(0:Int),(0:Int),(0:Int),.int .u8 2,CN,(0:Int),(0:Int),(0:Int),(0:Int)] 85 (0,0)))->wpList Tryz.prog regWe.toArray Q (regWe.drop 6) (finP regWe 6 V a0) w') (hN:a0.tmps.size=69:=by kernel_rfl) (hp0:a0.eval (.tmp 0)=.pointer (some ⟨wp,0,none⟩):=by kernel_rfl) (hp6:a0.eval (.tmp 6)=.pointer (some ⟨hb0,0,none⟩):=by kernel_rfl) (hp8:a0.eval (.tmp 8)=.pointer (some ⟨cb,0,none⟩):=by kernel_rfl) :
  (Code.region id regWe.toArray true).wp Tryz.prog Q a0 w:=by
 refine qW 6 69 a0 w (fun i v w=>match i with
  | 0=>v=.pointer (some ⟨wp,0,none⟩)
  | 1=>v=.agg #[.int .u8 5,SJ,(0:Int),(0:Int),(0:Int),(0:Int)]
  | 2=>v=.pointer (some ⟨cb,0,none⟩)
  | 3=>v=.string CN
  | 4=>v=.agg #[.int .u8 2,CN,(0:Int),(0:Int),(0:Int),(0:Int)]
  | 5=>∃ g,v=.slice (some ⟨g,0,none⟩) 2 2/\w.heap[g]?=some (.cells #[.int .u8 5,SJ,(0:Int),(0:Int),(0:Int),(0:Int),.int .u8 2,CN,(0:Int),(0:Int),(0:Int),(0:Int)] 85 (0,0))
  | _=>True) (by kernel_rfl) (by kernel_rfl) hN (by
   intro i v w w' hi h hb
   match i,hi,h with
   | 5,_,h=>obtain⟨g,e,hc⟩:=h;exact⟨g,e,hb.blk hc⟩
   | 0,_,h | 1,_,h | 2,_,h | 3,_,h | 4,_,h=>exact h
   | q+6,hi,_=>exact absurd hi (by omega)) ?_ ?_
 ·intro i' o hi' ho a w1 V hbel hd hpar K hK
  have p0':=dP (hpar 0 (by kernel_rfl)) hp0;have p6':=dP (hpar 6 (by kernel_rfl)) hp6;have p8':=dP (hpar 8 (by kernel_rfl)) hp8;obtain⟨⟨z0,z1,z2,z3,z4,z5⟩,_⟩:=QC (hbel.blk ha);have q0:w1.cell? ⟨cb,0,none⟩=some (.string CN):=by simp[World.cell?,hbel.blk hx]
  match i',hi',ho,hd,hK with
  | 0,_,ho,hd,hK=>cases ho;exact oW hK rfl rfl (by simp[execOp,go_sem,p0'])
  | 1,_,ho,hd,hK=>cases ho;exact oW hK rfl rfl (by simp[execOp,go_sem,p6',z0,z1,z2,z3,z4,z5])
  | 2,_,ho,hd,hK=>cases ho;exact oW hK rfl rfl (by simp[execOp,go_sem,p8'])
  | 3,_,ho,hd,hK=>cases ho;exact oW hK rfl rfl (by simp[execOp,go_sem,dE (hd 2 41 rfl),q0])
  | 4,_,ho,hd,hK=>cases ho;exact oK hK rfl (Zj CN w1) (fun _=>rfl) (by simp[go_sem,dE (hd 3 42 rfl)])
  | 5,_,ho,hd,hK=>cases ho;refine oN rfl ?_;exact qX (v:= .slice (some ⟨w1.heap.size,0,none⟩) 2 2) (w':=w1.alloc (.cells #[.int .u8 5,SJ,(0:Int),(0:Int),(0:Int),(0:Int),.int .u8 2,CN,(0:Int),(0:Int),(0:Int),(0:Int)] 85)) (by simp[execOp,go_sem,dE (hd 1 40 rfl),dE (hd 4 43 rfl)]) (hK _ _ ((Bel.refl w1).alloc _) ⟨w1.heap.size,rfl,blk1 w1 _⟩)
  | q+6,hi,_,_,_=>exact absurd hi (by omega)
 ·intro V w' hb hF
  exact hend V w' hb (hF 0 (by omega)) (hF 5 (by omega))
set_option maxHeartbeats 8000000
def ExC(w0:World)(base wp M:Nat):Prop:=∀ (k:Int) (s:LU) (n:Int) (p:Pl) (A:OA) (c:Nat) (B:OA) (bc:Nat) (kids arms:Tr) (xs:List Tn) (W:World),
 KidsTr w0 (OldT w0) .ex A kids.len c kids->KidsTr w0 (OldT w0) .arms B arms.len bc arms->(Tr.nod k s n p kids arms .nil).size<=M->(Tr.nod k s n p kids arms .nil).shp->Bel w0 W->Wri W base wp xs->xs.length<=5000 →
 Calls Tryz.prog 27 #[.pointer (some ⟨wp,0,none⟩),.agg #[.int .u8 k,.string ⟨s.toArray⟩,n,p.a,p.l,p.c,.slice A kids.len c,.slice B arms.len bc]] W (WrQ w0 base wp xs (qe k s n kids arms) W)
def qcu(fa:FuncId)(al:Int->Nat->Bool):Prop:=∀ (k:Int) (S:BA) (n:Int) (p:Pl) (A:OA) (l c:Nat) (B:OA) (m d:Nat) (w:World),Calls Tryz.prog fa #[.agg #[.int .u8 k,.string S,.int .i64 n,.int .i64 p.a,.int .i64 p.l,.int .i64 p.c,.slice A l c,.slice B m d]] w (qu (al k l) w)
theorem ZG(fa:FuncId)(al:Int->Nat->Bool)(ega:∀ args w,(callFunc fa args).run Tryz.prog w=.ok (.enter fa args) w)(HA:qcu fa al)(base wp M:Nat)(xs:List Tn)(A:OA)(n c:Nat)(f:Tr)(w0 W:World)
  (hX:ExC w0 base wp M) (hwp:w0.heap.size<=wp) (hf:RowX w0 W wp .ex A n f) (hsz:f.size<=M) (hM:M<=1000000) (hs:f.shp) (hW:Bel w0 W) (hw:Wri W base wp xs) (hx:xs.length<=5000) :
  Calls Tryz.prog 68 #[.pointer (some ⟨wp,0,none⟩),.func (.func fa) #[] #[],.func (.func 27) #[.pointer (some ⟨wp,0,none⟩)] #[],.slice A n c] W (WrQ w0 base wp xs (f.brX al) W):=by
 have HF:=hid hf;have HX:=hid hX;have HAA:=hid HA;have HSZ:=hid (And.intro hsz hs);have HW:=hid hW;have HL:Hid (n=f.len):=hid hf.1;have hn:n<=1000000:=by have:=hf.1;have:=f.len_le;omega
 have egx:∀ args w,(callFunc 27 args).run Tryz.prog w=.ok (.enter 27 args) w:=fun args w=>by kernel_rfl
 have HI:Hid (∃ pre,Ws w0 base wp xs W pre W/\pre++(f.dropN 0).brX al=f.brX al):=hid ⟨[],Ws.start hW hw hx,by cases f <;> rfl⟩;clear hf hX HA hsz hs hW hw hx;go_enter Tryz.func68,Tryz.ntmps68;go_wp2_with fail;go_loopw [12] (fun i wr=>∃ j:Nat,j<=n/\i=.int .i64 (j:Int)/\Hid (∃ pre,Ws w0 base wp xs W pre wr/\pre++(f.dropN j).brX al=f.brX al)) (fun i _=>n-(intOf i).toNat)
 case atStart=>exact⟨0,zL _,rfl,HI⟩
 case round=>
  obtain⟨j,hj,rfl,HR⟩:=hrel;obtain⟨pre,hws,hpre⟩:=HR.out;by_cases hlt:j<n
  ·obtain⟨ub,uo,k,s,nn,p,kids,arms,A',c',B',bc',eA,⟨uob,hub⟩,hnth,hcs,hkk,hka⟩:=(HF.out.step HW hws.1 hws.2.2).nth (by intro e;cases e) hws.1 hlt
   subst eA;have hka':KidsTr w0 (OldT w0) .arms B' arms.len bc' arms:=by
    rcases hka with h | ⟨h | h,_⟩
    ·exact h.2
    ·cases h
    ·cases h
   have hns:(Tr.nod k s nn p kids arms .nil).size<=M:=by rw[<- hnth];exact lL (f.nth_size j) HSZ.1
   have hnp:(Tr.nod k s nn p kids arms .nil).shp:=by rw[<- hnth];exact f.nth_shp j HSZ.2
   have hdr:(f.dropN j).brX al=brkL (al k kids.len) (qe k s nn kids arms)++(f.dropN (j+1)).brX al:=by rw[Tr.dropN_nod f j hnth];rfl
   have HC:Hid (∀ (ys:List Tn) (W':World),Bel w0 W'->Wri W' base wp ys->ys.length<=5000->Calls Tryz.prog 27 #[.pointer (some ⟨wp,0,none⟩),.agg #[.int .u8 k,.string ⟨s.toArray⟩,nn,p.a,p.l,p.c,.slice A' kids.len c',.slice B' arms.len bc']] W' (WrQ w0 base wp ys (qe k s nn kids arms) W')):=hid fun ys W' h1 h2 h3=>HX k s nn p A' c' B' bc' kids arms ys W' hkk hka' hns hnp h1 h2 h3;have y0:=hcs 0 _ rfl;have y1:=hcs 1 _ rfl;have y2:=hcs 2 _ rfl;have y3:=hcs 3 _ rfl;have y4:=hcs 4 _ rfl;have y5:=hcs 5 _ rfl;have y6:=hcs 6 _ rfl;have y7:=hcs 7 _ rfl;simp only[Sh.sz,Sh.kd,nZz]at y0 y1 y2 y3 y4 y5 y6 y7;rw[hdr]at hpre;obtain⟨Fx,hFx⟩:=nW (qe k s nn kids arms);obtain⟨b,hb⟩:=nW (al k kids.len);obtain⟨SS,hSS⟩:=nW (⟨s.toArray⟩:BA);obtain⟨l1,hl1⟩:=nW kids.len;obtain⟨l2,hl2⟩:=nW arms.len;have HAL:Hid (∀ W',Calls Tryz.prog fa #[.agg #[.int .u8 k,SS,nn,p.a,p.l,p.c,.slice A' l1 c',.slice B' l2 bc']] W' (qu b W')):=hid fun W'=>by rw[hb,<- hl1];exact HAA k SS nn p A' l1 c' B' l2 bc' W'
   rw[<- hFx,<- hb]at hpre;rw[<- hSS,<- hl1,<- hl2,<- hFx]at HC;rw[<- hSS]at y1;rw[<- hl1]at y6;rw[<- hl2]at y7;have HS1:=hid (hws.bel ((Bel.refl wr).alloc (.cells #[.int .u8 k,SS,nn,p.a,p.l,p.c,.slice A' l1 c',.slice B' l2 bc'] 28)));have HBX:=hid (hws.box (.cells #[.int .u8 k,SS,nn,p.a,p.l,p.c,.slice A' l1 c',.slice B' l2 bc'] 28));have HPRE:=hid hpre;have hob':ub<wr.heap.size:=(aJ.1 hub.1).1;have i1:(0:Int)<=(j:Int):=by omega
   have i2:(j:Int)<(n:Int):=by omega
   have HLT:=hid hlt;clear hcs hkk hka hka' hns hnp hdr hpre hFx hb hSS hl1 hl2 hnth hub hws HR;go_wp2_with fail;refine (HAL _).mono ?_;rintro e w2 ⟨rfl,hb2⟩;have HS2:=hid (HS1.bel hb2);have HX2:=hid (HS1.out.kp hb2 _ _ HBX);obtain⟨x0,x1,x2,x3,x4,x5,x6,x7⟩:=box8 HX2.1;have hl2:wr.heap.size<w2.heap.size:=(aJ.1 HX2.1).1;clear hb2 y0 y1 y2 y3 y4 y5 y6 y7 hob' HAL HS1 HBX;cases b
   ·go_wp2_with fail
    refine (qf _ _).mono ?_;rintro e w3 ⟨rfl,hb3⟩;have HS3:=hid (HS2.bel hb3);have HX3:=hid (HS2.out.kp hb3 _ _ HX2);clear hb3 x0 x1 x2 x3 x4 x5 x6 x7;unfold tokV;go_wp2_with fail;refine (HS3.out.put1 hwp 5 [40] 0 _).mono ?_;rintro e w4 ⟨rfl,hs4,hk4⟩;have HS4:=hid hs4;have HX4:=hid (hk4 _ _ HX3);obtain⟨x0,x1,x2,x3,x4,x5,x6,x7⟩:=box8 HX4.1;have hl4:wr.heap.size<w4.heap.size:=(aJ.1 HX4.1).1;clear hs4 hk4;go_wp2_with fail;refine (HS4.run fun r h1 h2 h3=>HC r w4 h1 h2 h3).mono ?_;rintro e w5 ⟨rfl,hs5,hk5⟩;have HS5:=hid hs5;clear hs5 hk5 x0 x1 x2 x3 x4 x5 x6 x7;go_wp2_with fail;refine (qf _ _).mono ?_;rintro e w6 ⟨rfl,hb6⟩;have HS6:=hid (HS5.bel hb6);clear hb6;unfold tokV;go_wp2_with fail;refine (HS6.out.put1 hwp 5 [41] 0 _).mono ?_;rintro e w7 ⟨rfl,hs7,hk7⟩;have HS7:=hid hs7;have HR':Hid (∃ pre,Ws w0 base wp xs W pre w7/\pre++(f.dropN (j+1)).brX al=f.brX al):=hid ⟨_,HS7,by rw[<- HPRE.out];simp[brkL]⟩;clear hs7 hk7;go_wp2_with fail;go_roundw
    case rel=>exact⟨j+1,HLT,by go_num,HR'⟩
    case measure=>exact mS HLT
   ·go_wp2_with fail
    refine (HS2.run fun r h1 h2 h3=>HC r w2 h1 h2 h3).mono ?_;rintro e w5 ⟨rfl,hs5,hk5⟩;have HR':Hid (∃ pre,Ws w0 base wp xs W pre w5/\pre++(f.dropN (j+1)).brX al=f.brX al):=hid ⟨_,hs5,by rw[<- HPRE.out];simp[brkL]⟩;clear hs5 hk5 x0 x1 x2 x3 x4 x5 x6 x7;go_wp2_with fail;go_roundw
    case rel=>exact⟨j+1,HLT,by go_num,HR'⟩
    case measure=>exact mS HLT
  ·obtain rfl:j=n:=by omega
   rw[Tr.dropN_all f j (by rw[<- HL.out];exact lR _)]at hpre;have HQ:=hid (hws.fin (F:=f.brX al) (by rw[<- hpre];simp[Tr.brX]));clear hws hpre;go_wp2_with fail;go_end0;exact HQ
set_option maxHeartbeats 8000000
theorem qcA(fa:FuncId)(al:Int->Nat->Bool)(ega:∀ args w,(callFunc fa args).run Tryz.prog w=.ok (.enter fa args) w)(HA:qcu fa al){base wp M:Nat}{w0:World}{xs:List Tn}{W:World}(hC:ExC w0 base wp M)(hM:M<=1000000)(hwp:w0.heap.size<=wp)(pre:List Tn)(w:World)(g:Nat)(k:Int)(s:LU)(n:Int)(p:Pl)(kids arms:Tr)(A:OA)(c:Nat)(B:OA)(bc:Nat)(h:Ws w0 base wp xs W pre w)(hg:g=w.heap.size)(hk:KidsTr w0 (OldT w0) .ex A kids.len c kids)(ha:KidsTr w0 (OldT w0) .arms B arms.len bc arms)(hs:1+kids.size+arms.size<=M)(hp:(Tr.nod k s n p kids arms .nil).shp) :
  Calls Tryz.prog 68 #[.pointer (some ⟨wp,0,none⟩),.func (.func fa) #[] #[],.func (.func 27) #[.pointer (some ⟨wp,0,none⟩)] #[],.slice (some ⟨g,0,none⟩) 1 1] (w.alloc (.cells #[.int .u8 k,.string ⟨s.toArray⟩,n,p.a,p.l,p.c,.slice A kids.len c,.slice B arms.len bc] 28))
   (WsQ w0 base wp xs W (pre++brkL (al k kids.len) (qe k s n kids arms)) w):=by
 subst hg;refine h.runA ((Bel.refl w).alloc _) fun r h1 h2 h3=>?_;have hr:RowX w0 (w.alloc (.cells #[.int .u8 k,.string ⟨s.toArray⟩,n,p.a,p.l,p.c,.slice A kids.len c,.slice B arms.len bc] 28)) wp .ex (some ⟨w.heap.size,0,none⟩) 1 (.nod k s n p kids arms .nil):=by
  obtain⟨q1,⟨r',q2,_⟩,_⟩:=h;exact RowX.one (sh:= .ex) (by intro e;cases e) hk (.inl ⟨rfl,ha⟩) q1 q2
 have hb:=ZG fa al ega HA base wp M r _ 1 1 _ w0 _ hC hwp hr (by simp only[Tr.size];omega) hM hp h1 h2 h3;rw[show (Tr.nod k s n p kids arms .nil).brX al=brkL (al k kids.len) (qe k s n kids arms) by simp[Tr.brX]]at hb;exact hb
theorem Ws.put2g{w0:World}{base wp:Nat}{xs:List Tn}{W:World}{pre:List Tn}{w:World}(h:Ws w0 base wp xs W pre w)(hwp:w0.heap.size<=wp)(k:Int)(s:LU)(n:Int)(k2:Int)(s2:LU)(n2:Int)(cp g:Nat)(hg:g=w.heap.size) :
  Calls Tryz.prog 43 #[.pointer (some ⟨wp,0,none⟩),.slice (some ⟨g,0,none⟩) 2 cp] (w.alloc (.cells #[.int .u8 k,.string ⟨s.toArray⟩,.int .i64 n,.int .i64 0,.int .i64 0,.int .i64 0,.int .u8 k2,.string ⟨s2.toArray⟩,.int .i64 n2,.int .i64 0,.int .i64 0,.int .i64 0] 85)) (WsQ w0 base wp xs W (pre++[tk0 k s n,tk0 k2 s2 n2]) w):=by
 subst hg;exact h.put2 hwp k s n k2 s2 n2 cp
theorem qiu(sep:List Tn)(ka:Int)(sa:LU)(na:Int)(pa:Pl)(kia ara:Tr)(kb:Int)(sb:LU)(nb:Int)(pb:Pl)(kib arb:Tr):(Tr.nod ka sa na pa kia ara (.nod kb sb nb pb kib arb .nil)).exK 0 sep=qe ka sa na kia ara++sep++qe kb sb nb kib arb:=by
 rw[zk,zk];simp[brkM,nxM,Tr.exK]
theorem qax(base wp M:Nat)(w0:World)(hwp:w0.heap.size<=wp)(hC:ExC w0 base wp M)(k:Int)(s:LU)(n:Int)(p:Pl)(A:OA)(l c:Nat)(B:OA)(al bc:Nat)(kids arms:Tr)(hk:KidsTr w0 (OldT w0) .ex A l c kids)(hl2:l=2)(hsz:kids.size<=M)(hsh:kids.shp)
  (ls:List Tn) (L:Nat) (hL:L=ls.length) (hls:0<L/\L<=2) (g:Nat) (t:TypeId) (xs:List Tn) (W:World) (pre:List Tn) (w w':World) (hs:Ws w0 base wp xs W pre w) (hb:Bel w w') (hg:w'.heap[g]?=some (.cells (jm ls).toArray t (0,0))) :
  Calls Tryz.prog 66 #[.pointer (some ⟨wp,0,none⟩),.agg #[.int .u8 k,.string ⟨s.toArray⟩,n,p.a,p.l,p.c,.slice A l c,.slice B al bc],.slice (some ⟨g,0,none⟩) L L] w' (WsQ w0 base wp xs W (pre++(ls++(tk0 1 s 0::kwEq::kids.exK 0 [kwIn]))) w):=by
 have HS:=hid (hs.bel hb);have HK0:=hid (hs.kp hb);obtain⟨b,o,ka,sa,na,pa,kia,ara,A1,c1,B1,d1,kb,sb,nb,pb,kib,arb,A2,c2,B2,d2,rfl,rfl,hlt,hc1,hk1,ha1,hc2,hk2,ha2⟩:=Z9 (by intro e;cases e) hk hl2;have ha1':KidsTr w0 (OldT w0) .arms B1 ara.len d1 ara:=by
  rcases ha1 with h | ⟨h | h,_⟩
  ·exact h.2
  ·cases h
  ·cases h
 have ha2':KidsTr w0 (OldT w0) .arms B2 arb.len d2 arb:=by
  rcases ha2 with h | ⟨h | h,_⟩
  ·exact h.2
  ·cases h
  ·cases h
 rw[qiu];simp only[Tr.size]at hsz;have HP1:=hid fun xs' W'=>hC ka sa na pa A1 c1 B1 d1 kia ara xs' W' hk1 ha1' (by simp only[Tr.size];omega) ⟨hsh.1,hsh.2.1,hsh.2.2.1,hsh.2.2.2.1,hsh.2.2.2.2.1,hsh.2.2.2.2.2.1,trivial⟩;have HP2:=hid fun xs' W'=>hC kb sb nb pb A2 c2 B2 d2 kib arb xs' W' hk2 ha2' (by simp only[Tr.size];omega) hsh.2.2.2.2.2.2;have HW1:=hid fun w1 (hb1:Bel w' w1) (h1:Ws w0 base wp xs W pre w1)=>h1.run (w':=w1) fun r q1 q2 q3=>qeg base wp r ls g L t w0 w1 w1 q1 hwp q2 (Bel.refl _) q3 (by omega) (by omega) (hb1.blk hg) (zM ls);have HPU:Hid (∀ (pre:List Tn) (w:World) (g:Nat),Ws w0 base wp xs W pre w->g=w.heap.size->Calls Tryz.prog 43 #[.pointer (some ⟨wp,0,none⟩),.slice (some ⟨g,0,none⟩) 2 2] (w.alloc (.cells #[.int .u8 1,.string ⟨s.toArray⟩,.int .i64 0,.int .i64 0,.int .i64 0,.int .i64 0,.int .u8 5,.string ⟨#[61]⟩,.int .i64 0,.int .i64 0,.int .i64 0,.int .i64 0] 85)) (WsQ w0 base wp xs W (pre++[tk0 1 s 0,kwEq]) w)):=hid fun pre w g h hg=>h.put2g hwp 1 s 0 5 [61] 0 2 g hg;have HCC1:=hid hc1;have HCC2:=hid hc2;obtain⟨SS,hSS⟩:=nW (⟨s.toArray⟩:BA);obtain⟨SA,hSA⟩:=nW (⟨sa.toArray⟩:BA);obtain⟨SB,hSB⟩:=nW (⟨sb.toArray⟩:BA);obtain⟨T1,hT1⟩:=nW (tk0 1 s 0);obtain⟨F1,hF1⟩:=nW (qe ka sa na kia ara);obtain⟨F2,hF2⟩:=nW (qe kb sb nb kib arb);obtain⟨l1,hl1⟩:=nW kia.len;obtain⟨l2,hl2'⟩:=nW kib.len;obtain⟨m1,hm1⟩:=nW ara.len;obtain⟨m2,hm2⟩:=nW arb.len;rw[<- hl1,<- hm1]at HCC1;rw[<- hl2',<- hm2]at HCC2;rw[<- hSA,<- hF1,<- hl1,<- hm1]at HP1;rw[<- hSB,<- hF2,<- hl2',<- hm2]at HP2;rw[<- hSS,<- hT1]at HPU;rw[<- hSS,<- hT1,<- hF1,<- hF2,hl2];rw[<- hL]at HW1;have HSA:=hid hSA;have HSB:=hid hSB;have hL63:L<=2:=hls.2;clear hk hsz hsh hC hc1 hc2 hk1 hk2 ha1 ha2 ha1' ha2' hlt hSS hSA hSB hT1 hF1 hF2 hl1 hl2' hm1 hm2 hl2 hs hb hg hL hls;have HS1:=hid (HS.bel ((Bel.refl w').alloc (.cells #[.int .u8 k,SS,n,p.a,p.l,p.c,.slice (some ⟨b,o,none⟩) 2 c,.slice B al bc] 28)));have HX1:=hid (HS.out.box (.cells #[.int .u8 k,SS,n,p.a,p.l,p.c,.slice (some ⟨b,o,none⟩) 2 c,.slice B al bc] 28));have HKA:=hid (HS.out.kp ((Bel.refl w').alloc (.cells #[.int .u8 k,SS,n,p.a,p.l,p.c,.slice (some ⟨b,o,none⟩) 2 c,.slice B al bc] 28)));go_enter Tryz.func66,Tryz.ntmps66;go_wp2_with fail;refine (HW1 _ ((Bel.refl w').alloc _) HS1).mono ?_;rintro e w2 ⟨rfl,hs2,hk2⟩;have HS2:=hid hs2;have HX2:=hid (hk2 _ _ HX1);have HK2:=hid ((HK0.on HKA).on hk2);obtain⟨x0,x1,x2,x3,x4,x5,x6,x7⟩:=box8 HX2.1;have hl2:w'.heap.size<w2.heap.size:=(aJ.1 HX2.1).1;clear hs2 hk2 HW1 HS HK0 HS1 HX1 HKA;go_wp2_with fail;refine (zK _ _).mono ?_;rintro e w3 ⟨rfl,hb3⟩;have HS3:=hid (HS2.bel hb3);have HX3:=hid (HS2.out.kp hb3 _ _ HX2);have HK3:=hid (HK2.on (HS2.out.kp hb3));clear hb3 x0 x1 x2 x3 x4 x5 x6 x7 hl2;unfold tokV;go_wp2_with fail;refine (qf _ _).mono ?_;rintro e w4 ⟨rfl,hb4⟩;have HS4:=hid (HS3.bel hb4);have HX4:=hid (HS3.out.kp hb4 _ _ HX3);have HK4:=hid (HK3.on (HS3.out.kp hb4));clear hb4;unfold tokV;go_wp2_with fail;refine (HPU _ _ _ HS4 rfl).mono ?_;rintro e w5 ⟨rfl,hs5,hk5⟩;have HS5:=hid hs5;have HX5:=hid (hk5 _ _ HX4);have HK5:=hid (HK4.on hk5);obtain⟨x0,x1,x2,x3,x4,x5,x6,x7⟩:=box8 HX5.1;have hl5:w'.heap.size<w5.heap.size:=(aJ.1 HX5.1).1;have y0:=HCC1.out _ HS5.1 0 _ rfl;have y1:=HCC1.out _ HS5.1 1 _ rfl;have y2:=HCC1.out _ HS5.1 2 _ rfl;have y3:=HCC1.out _ HS5.1 3 _ rfl;have y4:=HCC1.out _ HS5.1 4 _ rfl;have y5:=HCC1.out _ HS5.1 5 _ rfl;have y6:=HCC1.out _ HS5.1 6 _ rfl;have y7:=HCC1.out _ HS5.1 7 _ rfl;simp only[Sh.kd,nZz]at y0 y1 y2 y3 y4 y5 y6 y7;rw[<- HSA.out]at y1;clear hs5 hk5;go_wp2_with fail;refine (HS5.run fun r h1 h2 h3=>HP1 r w5 h1 h2 h3).mono ?_;rintro e w6 ⟨rfl,hs6,hk6⟩;have HS6:=hid hs6;have HX6:=hid (hk6 _ _ HX5);have HK6:=hid (HK5.on hk6);clear hs6 hk6 y0 y1 y2 y3 y4 y5 y6 y7 x0 x1 x2 x3 x4 x5 x6 x7 hl5;go_wp2_with fail;refine (qf _ _).mono ?_;rintro e w7 ⟨rfl,hb7⟩;have HS7:=hid (HS6.bel hb7);have HX7:=hid (HS6.out.kp hb7 _ _ HX6);have HK7:=hid (HK6.on (HS6.out.kp hb7));clear hb7;unfold tokV;go_wp2_with fail;refine (HS7.out.put1 hwp 5 [105,110] 0 _).mono ?_;rintro e w8 ⟨rfl,hs8,hk8⟩;have HS8:=hid hs8;have HX8:=hid (hk8 _ _ HX7);have HK8:=hid (HK7.on hk8);obtain⟨x0,x1,x2,x3,x4,x5,x6,x7⟩:=box8 HX8.1;have hl8:w'.heap.size<w8.heap.size:=(aJ.1 HX8.1).1;have y0:=HCC2.out _ HS8.1 0 _ rfl;have y1:=HCC2.out _ HS8.1 1 _ rfl;have y2:=HCC2.out _ HS8.1 2 _ rfl;have y3:=HCC2.out _ HS8.1 3 _ rfl;have y4:=HCC2.out _ HS8.1 4 _ rfl;have y5:=HCC2.out _ HS8.1 5 _ rfl;have y6:=HCC2.out _ HS8.1 6 _ rfl;have y7:=HCC2.out _ HS8.1 7 _ rfl;simp only[Sh.kd,Sh.sz,nZz]at y0 y1 y2 y3 y4 y5 y6 y7;rw[<- HSB.out]at y1;clear hs8 hk8;go_wp2_with fail;refine (HS8.run fun r h1 h2 h3=>HP2 r w8 h1 h2 h3).mono ?_;rintro e w9 ⟨rfl,hs9,hk9⟩;have HQ:Hid (WsQ w0 base wp xs W (pre++(ls++(T1::kwEq::(F1++[kwIn]++F2)))) w (.returned (.tuple #[])) w9):=hid ⟨rfl,by
  have e:pre++(ls++(T1::kwEq::(F1++[kwIn]++F2)))=pre++ls++[T1,kwEq]++F1++[kwIn]++F2:=by simp
  rw[e];exact hs9,HK8.on hk9⟩
 clear hs9 hk9 y0 y1 y2 y3 y4 y5 y6 y7 x0 x1 x2 x3 x4 x5 x6 x7;go_wp2_with fail;go_end0;exact HQ
set_option maxHeartbeats 8000000
theorem QM:qcu 70 alnE:=fun k S n p A l c B m d w=>QN k S n p A l c B m d w
theorem qel:qcu 69 alnF:=fun k S n p A l c B m d w=>J0 k S n p A l c B m d w
theorem egE:∀ args w,(callFunc 70 args).run Tryz.prog w=.ok (.enter 70 args) w:=fun args w=>by kernel_rfl
theorem egF:∀ args w,(callFunc 69 args).run Tryz.prog w=.ok (.enter 69 args) w:=fun args w=>by kernel_rfl
theorem qgP(sep:List Tn)(ka:Int)(sa:LU)(na:Int)(pa:Pl)(kia ara:Tr)(kb:Int)(sb:LU)(nb:Int)(pb:Pl)(kib arb:Tr):(Tr.nod ka sa na pa kia ara (.nod kb sb nb pb kib arb .nil)).exK 2 sep=brkL (alnE ka kia.len) (qe ka sa na kia ara)++sep++brkL (alnE kb kib.len) (qe kb sb nb kib arb):=by
 rw[zk,zk];simp[brkM,nxM,Tr.exK]
theorem qgO(sep:List Tn)(ka:Int)(sa:LU)(na:Int)(pa:Pl)(kia ara:Tr)(kb:Int)(sb:LU)(nb:Int)(pb:Pl)(kib arb:Tr):(Tr.nod ka sa na pa kia ara (.nod kb sb nb pb kib arb .nil)).exK 1 sep=brkL (alnF ka kia.len) (qe ka sa na kia ara)++sep++brkL (alnE kb kib.len) (qe kb sb nb kib arb):=by
 rw[zk,zk];simp[brkM,nxM,Tr.exK]
theorem qcq(base wp M:Nat)(hM:M<=1000000)(w0:World)(hwp:w0.heap.size<=wp)(hC:ExC w0 base wp M)(k:Int)(s:LU)(n:Int)(p:Pl)(A:OA)(l c:Nat)(B:OA)(al bc:Nat)(kids arms:Tr)(hk:KidsTr w0 (OldT w0) .ex A l c kids)(hsz:kids.size<=M)(hsh:kids.shp)(h5:(exR k s).1=5->l=2)
  (xs:List Tn) (W:World) (pre:List Tn) (w w':World) (hs:Ws w0 base wp xs W pre w) (hb:Bel w w') :
  Calls Tryz.prog 71 #[.pointer (some ⟨wp,0,none⟩),.agg #[.int .u8 k,.string ⟨s.toArray⟩,n,p.a,p.l,p.c,.slice A l c,.slice B al bc]] w' (WsQ w0 base wp xs W (pre++(if (exR k s).1=5 then kids.exK 2 [tk0 5 s n] else tk0 (exR k s).1 s n::kids.exK 2 [])) w):=by
 have HS:=hid (hs.bel hb);have HK0:=hid (hs.kp hb);have HR:Hid (∀ W,Calls Tryz.prog 60 #[.agg #[.int .u8 k,.string ⟨s.toArray⟩,n,p.a,p.l,p.c,.slice A l c,.slice B al bc]] W (StR (.tuple #[.agg #[.int .u8 (exR k s).1,.int .i64 (exR k s).2.1],.bool (exR k s).2.2]) W)):=hid fun W=>ZI k s n p A l c B al bc W;obtain⟨tk,htk⟩:=nW ((exR k s).1);obtain⟨kc,hkc⟩:=nW ((exR k s).2.1);obtain⟨ok,hok⟩:=nW ((exR k s).2.2);rw[<- htk,<- hkc,<- hok]at HR;rw[<- htk]at h5;rw[<- htk];have HPU:Hid (∀ (pre:List Tn) (w:World) (g:Nat),Ws w0 base wp xs W pre w->g=w.heap.size->Calls Tryz.prog 43 #[.pointer (some ⟨wp,0,none⟩),.slice (some ⟨g,0,none⟩) 1 1] (w.alloc (.cells #[.int .u8 tk,.string ⟨s.toArray⟩,.int .i64 n,.int .i64 0,.int .i64 0,.int .i64 0] 85)) (WsQ w0 base wp xs W (pre++[tk0 tk s n]) w)):=hid fun pre w g h hg=>h.put1g hwp tk s n 1 g hg;by_cases t5:tk=5
 ·rw[if_pos t5]
  obtain⟨b,o,ka,sa,na,pa,kia,ara,A1,c1,B1,d1,kb,sb,nb,pb,kib,arb,A2,c2,B2,d2,rfl,rfl,hlt,hc1,hk1,ha1,hc2,hk2,ha2⟩:=Z9 (by intro e;cases e) hk (h5 t5);have ha1':KidsTr w0 (OldT w0) .arms B1 ara.len d1 ara:=by
   rcases ha1 with h | ⟨h | h,_⟩
   ·exact h.2
   ·cases h
   ·cases h
  have ha2':KidsTr w0 (OldT w0) .arms B2 arb.len d2 arb:=by
   rcases ha2 with h | ⟨h | h,_⟩
   ·exact h.2
   ·cases h
   ·cases h
  rw[qgP];simp only[Tr.size]at hsz;have hl2:=h5 t5;have HP1:=hid fun pre w g h hg=>qcA 70 alnE egE QM (xs:=xs) (W:=W) hC hM hwp pre w g ka sa na pa kia ara A1 c1 B1 d1 h hg hk1 ha1' (by omega) ⟨hsh.1,hsh.2.1,hsh.2.2.1,hsh.2.2.2.1,hsh.2.2.2.2.1,hsh.2.2.2.2.2.1,trivial⟩;have HP2:=hid fun pre w g h hg=>qcA 70 alnE egE QM (xs:=xs) (W:=W) hC hM hwp pre w g kb sb nb pb kib arb A2 c2 B2 d2 h hg hk2 ha2' (by omega) hsh.2.2.2.2.2.2;have HCC1:=hid hc1;have HCC2:=hid hc2;obtain⟨SS,hSS⟩:=nW (⟨s.toArray⟩:BA);obtain⟨SA,hSA⟩:=nW (⟨sa.toArray⟩:BA);obtain⟨SB,hSB⟩:=nW (⟨sb.toArray⟩:BA);obtain⟨T1,hT1⟩:=nW (tk0 tk s n);obtain⟨F1,hF1⟩:=nW (brkL (alnE ka kia.len) (qe ka sa na kia ara));obtain⟨F2,hF2⟩:=nW (brkL (alnE kb kib.len) (qe kb sb nb kib arb));obtain⟨l1,hl1⟩:=nW kia.len;obtain⟨l2,hl2'⟩:=nW kib.len;obtain⟨m1,hm1⟩:=nW ara.len;obtain⟨m2,hm2⟩:=nW arb.len;rw[<- hl1,<- hm1]at HCC1;rw[<- hl2',<- hm2]at HCC2;rw[<- hSA,<- hF1,<- hl1,<- hm1]at HP1;rw[<- hSB,<- hF2,<- hl2',<- hm2]at HP2;have hT5:tk0 5 s n=T1:=by rw[hT1,t5]
  rw[<- hT1,<- hSS]at HPU;rw[<- hSS]at HR;rw[hT5,<- hF1,<- hF2,<- hSS];have HSA:=hid hSA;have HSB:=hid hSB;clear hk hsz hsh hC hc1 hc2 hk1 hk2 ha1 ha2 ha1' ha2' hlt hSS hSA hSB hT1 hT5 hF1 hF2 hl1 hl2' hm1 hm2 hs hb h5 htk hkc hok;subst t5 hl2;have HS1:=hid (HS.bel ((Bel.refl w').alloc (.cells #[.int .u8 k,SS,n,p.a,p.l,p.c,.slice (some ⟨b,o,none⟩) 2 c,.slice B al bc] 28)));have HX1:=hid (HS.out.box (.cells #[.int .u8 k,SS,n,p.a,p.l,p.c,.slice (some ⟨b,o,none⟩) 2 c,.slice B al bc] 28));have HK1:=hid (HK0.on (HS.out.kp ((Bel.refl w').alloc (.cells #[.int .u8 k,SS,n,p.a,p.l,p.c,.slice (some ⟨b,o,none⟩) 2 c,.slice B al bc] 28))));go_enter Tryz.func71,Tryz.ntmps71;go_wp2_with fail;refine (HR _).mono ?_;rintro e w2 ⟨rfl,hb2⟩;have HB2:Hid (Bel w2 ((w2.alloc (.cells #[.int .u8 5,kc] 109)).alloc (.cells #[.int .u8 5,SS,n,(0:Int),(0:Int),(0:Int)] 85))):=hid (((Bel.refl w2).alloc _).alloc _);have HS2:=hid ((HS1.bel hb2).bel HB2);have HX2:=hid ((HS1.bel hb2).kp HB2 _ _ (HS1.out.kp hb2 _ _ HX1));have HT2:=hid (((HS1.bel hb2).bel ((Bel.refl w2).alloc (.cells #[.int .u8 5,kc] 109))).box (.cells #[.int .u8 5,SS,n,(0:Int),(0:Int),(0:Int)] 85));have HK2:=hid ((HK1.on (HS1.out.kp hb2)).on ((HS1.bel hb2).kp HB2));have hx2:=HS1.out.kp hb2 _ _ HX1;obtain⟨x0,x1,x2,x3,x4,x5,x6,x7⟩:=box8 hx2.1;have hl2:w'.heap.size<w2.heap.size:=(aJ.1 hx2.1).1;have y0:=HCC1.out _ HS2.1 0 _ rfl;have y1:=HCC1.out _ HS2.1 1 _ rfl;have y2:=HCC1.out _ HS2.1 2 _ rfl;have y3:=HCC1.out _ HS2.1 3 _ rfl;have y4:=HCC1.out _ HS2.1 4 _ rfl;have y5:=HCC1.out _ HS2.1 5 _ rfl;have y6:=HCC1.out _ HS2.1 6 _ rfl;have y7:=HCC1.out _ HS2.1 7 _ rfl;simp only[Sh.kd,nZz]at y0 y1 y2 y3 y4 y5 y6 y7;rw[<- HSA.out]at y1;clear hb2 hx2;go_wp2_with fail;refine (HP1 _ _ (w2.heap.size+1+1) HS2 (by simp)).mono ?_;rintro e w3 ⟨rfl,hs3,hk3⟩;have HS3:=hid hs3;have HX3:=hid (hk3 _ _ HX2);have ht3:=hk3 _ _ HT2;have hsz2:(w2.alloc (.cells #[.int .u8 5,kc] 109)).heap.size=w2.heap.size+1:=by simp
  rw[hsz2]at ht3;have HT3:=hid ht3;have HK3:=hid (HK2.on hk3);obtain⟨z0,z1,z2,z3,z4,z5⟩:=(QC ht3.1).1;have hl3:w2.heap.size+1<w3.heap.size:=(aJ.1 ht3.1).1;clear hs3 hk3 ht3 x0 x1 x2 x3 x4 x5 x6 x7 hl2 y0 y1 y2 y3 y4 y5 y6 y7;go_wp2_with fail;refine (HPU _ _ _ HS3 rfl).mono ?_;rintro e w4 ⟨rfl,hs4,hk4⟩;have HS4:=hid hs4;have HX4:=hid (hk4 _ _ HX3);have HK4:=hid (HK3.on hk4);obtain⟨x0,x1,x2,x3,x4,x5,x6,x7⟩:=box8 HX4.1;have hl4:w'.heap.size<w4.heap.size:=(aJ.1 HX4.1).1;have y0:=HCC2.out _ HS4.1 0 _ rfl;have y1:=HCC2.out _ HS4.1 1 _ rfl;have y2:=HCC2.out _ HS4.1 2 _ rfl;have y3:=HCC2.out _ HS4.1 3 _ rfl;have y4:=HCC2.out _ HS4.1 4 _ rfl;have y5:=HCC2.out _ HS4.1 5 _ rfl;have y6:=HCC2.out _ HS4.1 6 _ rfl;have y7:=HCC2.out _ HS4.1 7 _ rfl;simp only[Sh.kd,Sh.sz,nZz]at y0 y1 y2 y3 y4 y5 y6 y7;rw[<- HSB.out]at y1;clear hs4 hk4 z0 z1 z2 z3 z4 z5 hl3;go_wp2_with fail;refine (HP2 _ _ _ HS4 rfl).mono ?_;rintro e w5 ⟨rfl,hs5,hk5⟩;have HQ:Hid (WsQ w0 base wp xs W (pre++(F1++[T1]++F2)) w (.returned (.tuple #[])) w5):=hid ⟨rfl,by
   have e:pre++(F1++[T1]++F2)=pre++F1++[T1]++F2:=by simp
   rw[e];exact hs5,HK4.on hk5⟩
  clear hs5 hk5 y0 y1 y2 y3 y4 y5 y6 y7 x0 x1 x2 x3 x4 x5 x6 x7;go_wp2_with fail;go_end0;exact HQ
 rw[if_neg t5,Tr.brX_exK kids (hk.isNods (by intro e;cases e))];have HBR:Hid (∀ (pre:List Tn) (w:World),Ws w0 base wp xs W pre w->Calls Tryz.prog 68 #[.pointer (some ⟨wp,0,none⟩),.func (.func 70) #[] #[],.func (.func 27) #[.pointer (some ⟨wp,0,none⟩)] #[],.slice A l c] w (WsQ w0 base wp xs W (pre++kids.brX alnE) w)):=hid fun pre w h=>
  h.run fun r h1 h2 h3=>ZG 70 alnE egE QM base wp M r A l c kids w0 w hC hwp (RowX.old hk h1 hwp h2) hsz hM hsh h1 h2 h3
 obtain⟨T1,hT1⟩:=nW (tk0 tk s n);obtain⟨SS,hSS⟩:=nW (⟨s.toArray⟩:BA);obtain⟨F1,hF1⟩:=nW (kids.brX alnE);rw[<- hSS]at HR;rw[<- hF1]at HBR;rw[<- hSS,<- hT1]at HPU;rw[<- hSS,<- hT1,<- hF1];have d5:(tk==5)=false:=by simpa using t5
 clear hk hsz hsh hC htk hkc hok hT1 hSS hF1 hs hb h5 t5;have HS1:=hid (HS.bel ((Bel.refl w').alloc (.cells #[.int .u8 k,SS,n,p.a,p.l,p.c,.slice A l c,.slice B al bc] 28)));have HX1:=hid (HS.out.box (.cells #[.int .u8 k,SS,n,p.a,p.l,p.c,.slice A l c,.slice B al bc] 28));have HK1:=hid (HK0.on (HS.out.kp ((Bel.refl w').alloc (.cells #[.int .u8 k,SS,n,p.a,p.l,p.c,.slice A l c,.slice B al bc] 28))));go_enter Tryz.func71,Tryz.ntmps71;go_wp2_with fail;refine (HR _).mono ?_;rintro e w2 ⟨rfl,hb2⟩;have HB2:Hid (Bel w2 ((w2.alloc (.cells #[.int .u8 tk,kc] 109)).alloc (.cells #[.int .u8 tk,SS,n,(0:Int),(0:Int),(0:Int)] 85))):=hid (((Bel.refl w2).alloc _).alloc _);have HS2:=hid ((HS1.bel hb2).bel HB2);have HX2:=hid ((HS1.bel hb2).kp HB2 _ _ (HS1.out.kp hb2 _ _ HX1));have HK2:=hid ((HK1.on (HS1.out.kp hb2)).on ((HS1.bel hb2).kp HB2));have hx2:=HS1.out.kp hb2 _ _ HX1;obtain⟨x0,x1,x2,x3,x4,x5,x6,x7⟩:=box8 hx2.1;have hl2:w'.heap.size<w2.heap.size:=(aJ.1 hx2.1).1;clear hb2 hx2;go_wp2_with fail;refine (HPU _ _ (w2.heap.size+1+1) HS2 (by simp)).mono ?_;rintro e w4 ⟨rfl,hs4,hk4⟩;have HS4:=hid hs4;have HX4:=hid (hk4 _ _ HX2);have HK4:=hid (HK2.on hk4);clear x0 x1 x2 x3 x4 x5 x6 x7 hl2;obtain⟨x0,x1,x2,x3,x4,x5,x6,x7⟩:=box8 HX4.1;have hl4:w'.heap.size<w4.heap.size:=(aJ.1 HX4.1).1;clear hs4 hk4;go_wp2_with fail;refine (HBR _ _ HS4).mono ?_;rintro e w5 ⟨rfl,hs5,hk5⟩;have HQ:Hid (WsQ w0 base wp xs W (pre++(T1::F1)) w (.returned (.tuple #[])) w5):=hid ⟨rfl,by
  have e:pre++(T1::F1)=pre++[T1]++F1:=by simp
  rw[e];exact hs5,HK4.on hk5⟩
 clear hs5 hk5 x0 x1 x2 x3 x4 x5 x6 x7;go_wp2_with fail;go_end0;exact HQ
set_option maxHeartbeats 8000000
def PaC(w0:World)(base wp M:Nat):Prop:=∀ (k:Int) (s:LU) (n:Int) (p:Pl) (A:OA) (c:Nat) (kids:Tr) (xs:List Tn) (W:World),
 KidsTr w0 (OldT w0) .pat A kids.len c kids->1+kids.size<=M->Bel w0 W->Wri W base wp xs->xs.length<=5000 →
 Calls Tryz.prog 108 #[.pointer (some ⟨wp,0,none⟩),.agg #[.int .u8 k,.string ⟨s.toArray⟩,n,p.a,p.l,p.c,.slice A kids.len c]] W (WrQ w0 base wp xs (qr k s n kids.patK) W)
theorem qa7(base wp M:Nat)(xs:List Tn)(A:OA)(n c:Nat)(f:Tr)(w0 W:World)
  (hX:PaC w0 base wp M) (hwp:w0.heap.size<=wp) (hf:RowX w0 W wp .pat A n f) (hsz:f.size<=M) (hM:M<=1000000) (hW:Bel w0 W) (hw:Wri W base wp xs) (hx:xs.length<=5000) :
  Calls Tryz.prog 135 #[.pointer (some ⟨wp,0,none⟩),.func (.func 136) #[] #[],.func (.func 108) #[.pointer (some ⟨wp,0,none⟩)] #[],.slice A n c] W (WrQ w0 base wp xs (f.brP) W):=by
 have HF:=hid hf;have HX:=hid hX;have HSZ:=hid (And.intro hsz trivial);have HW:=hid hW;have HL:Hid (n=f.len):=hid hf.1;have hn:n<=1000000:=by have:=hf.1;have:=f.len_le;omega
 have ega:∀ args w,(callFunc 136 args).run Tryz.prog w=.ok (.enter 136 args) w:=fun args w=>by kernel_rfl
 have egx:∀ args w,(callFunc 108 args).run Tryz.prog w=.ok (.enter 108 args) w:=fun args w=>by kernel_rfl
 have HI:Hid (∃ pre,Ws w0 base wp xs W pre W/\pre++(f.dropN 0).brP=f.brP):=hid ⟨[],Ws.start hW hw hx,by cases f <;> rfl⟩;clear hf hX hsz hW hw hx;go_enter Tryz.func135,Tryz.ntmps135;go_wp2_with fail;go_loopw [12] (fun i wr=>∃ j:Nat,j<=n/\i=.int .i64 (j:Int)/\Hid (∃ pre,Ws w0 base wp xs W pre wr/\pre++(f.dropN j).brP=f.brP)) (fun i _=>n-(intOf i).toNat)
 case atStart=>exact⟨0,zL _,rfl,HI⟩
 case round=>
  obtain⟨j,hj,rfl,HR⟩:=hrel;obtain⟨pre,hws,hpre⟩:=HR.out;by_cases hlt:j<n
  ·obtain⟨ub,uo,k,s,nn,p,kids,arms,A',c',B',bc',eA,⟨uob,hub⟩,hnth,hcs,hkk,hka⟩:=(HF.out.step HW hws.1 hws.2.2).nth (by intro e;cases e) hws.1 hlt
   subst eA;have ha0:arms.len=0:=by
    rcases hka with ⟨h,_⟩ | ⟨_,h⟩
    ·cases h
    ·exact h
   have ha1:=Tr.len_nil arms ha0;subst ha1;have hns:1+kids.size<=M:=by
    have h1:=f.nth_size j;rw[hnth]at h1;simp only[Tr.size]at h1;have:=HSZ.1;omega
   have hdr:(f.dropN j).brP=brkL (alnP k kids.len) (qr k s nn kids.patK)++(f.dropN (j+1)).brP:=by rw[Tr.dropN_nod f j hnth];rfl
   have HC:Hid (∀ (ys:List Tn) (W':World),Bel w0 W'->Wri W' base wp ys->ys.length<=5000->Calls Tryz.prog 108 #[.pointer (some ⟨wp,0,none⟩),.agg #[.int .u8 k,.string ⟨s.toArray⟩,nn,p.a,p.l,p.c,.slice A' kids.len c']] W' (WrQ w0 base wp ys (qr k s nn kids.patK) W')):=hid fun ys W' h1 h2 h3=>HX k s nn p A' c' kids ys W' hkk hns h1 h2 h3;have y0:=hcs 0 _ rfl;have y1:=hcs 1 _ rfl;have y2:=hcs 2 _ rfl;have y3:=hcs 3 _ rfl;have y4:=hcs 4 _ rfl;have y5:=hcs 5 _ rfl;have y6:=hcs 6 _ rfl;simp only[Sh.sz,Sh.kd,nZz]at y0 y1 y2 y3 y4 y5 y6;rw[hdr]at hpre;obtain⟨Fx,hFx⟩:=nW (qr k s nn kids.patK);obtain⟨b,hb⟩:=nW (alnP k kids.len);obtain⟨SS,hSS⟩:=nW (⟨s.toArray⟩:BA);obtain⟨l1,hl1⟩:=nW kids.len;have HAL:Hid (∀ W',Calls Tryz.prog 136 #[.agg #[.int .u8 k,SS,nn,p.a,p.l,p.c,.slice A' l1 c']] W' (qu b W')):=hid fun W'=>by rw[hb,<- hl1];exact qa6 k SS nn p A' l1 c' W'
   rw[<- hFx,<- hb]at hpre;rw[<- hSS,<- hl1,<- hFx]at HC;rw[<- hSS]at y1;rw[<- hl1]at y6;have HS1:=hid (hws.bel ((Bel.refl wr).alloc (.cells #[.int .u8 k,SS,nn,p.a,p.l,p.c,.slice A' l1 c'] 59)));have HBX:=hid (hws.box (.cells #[.int .u8 k,SS,nn,p.a,p.l,p.c,.slice A' l1 c'] 59));have HPRE:=hid hpre;have hob':ub<wr.heap.size:=(aJ.1 hub.1).1;have i1:(0:Int)<=(j:Int):=by omega
   have i2:(j:Int)<(n:Int):=by omega
   have HLT:=hid hlt;clear hcs hkk hka ha0 hns hdr hpre hFx hb hSS hl1 hnth hub hws HR;go_wp2_with fail;refine (HAL _).mono ?_;rintro e w2 ⟨rfl,hb2⟩;have HS2:=hid (HS1.bel hb2);have HX2:=hid (HS1.out.kp hb2 _ _ HBX);obtain⟨x0,x1,x2,x3,x4,x5,x6⟩:=box7 HX2.1;have hl2:wr.heap.size<w2.heap.size:=(aJ.1 HX2.1).1;clear hb2 y0 y1 y2 y3 y4 y5 y6 hob' HAL HS1 HBX;cases b
   ·go_wp2_with fail
    refine (qf _ _).mono ?_;rintro e w3 ⟨rfl,hb3⟩;have HS3:=hid (HS2.bel hb3);have HX3:=hid (HS2.out.kp hb3 _ _ HX2);clear hb3 x0 x1 x2 x3 x4 x5 x6;unfold tokV;go_wp2_with fail;refine (HS3.out.put1 hwp 5 [40] 0 _).mono ?_;rintro e w4 ⟨rfl,hs4,hk4⟩;have HS4:=hid hs4;have HX4:=hid (hk4 _ _ HX3);obtain⟨x0,x1,x2,x3,x4,x5,x6⟩:=box7 HX4.1;have hl4:wr.heap.size<w4.heap.size:=(aJ.1 HX4.1).1;clear hs4 hk4;go_wp2_with fail;refine (HS4.run fun r h1 h2 h3=>HC r w4 h1 h2 h3).mono ?_;rintro e w5 ⟨rfl,hs5,hk5⟩;have HS5:=hid hs5;clear hs5 hk5 x0 x1 x2 x3 x4 x5 x6;go_wp2_with fail;refine (qf _ _).mono ?_;rintro e w6 ⟨rfl,hb6⟩;have HS6:=hid (HS5.bel hb6);clear hb6;unfold tokV;go_wp2_with fail;refine (HS6.out.put1 hwp 5 [41] 0 _).mono ?_;rintro e w7 ⟨rfl,hs7,hk7⟩;have HS7:=hid hs7;have HR':Hid (∃ pre,Ws w0 base wp xs W pre w7/\pre++(f.dropN (j+1)).brP=f.brP):=hid ⟨_,HS7,by rw[<- HPRE.out];simp[brkL]⟩;clear hs7 hk7;go_wp2_with fail;go_roundw
    case rel=>exact⟨j+1,HLT,by go_num,HR'⟩
    case measure=>exact mS HLT
   ·go_wp2_with fail
    refine (HS2.run fun r h1 h2 h3=>HC r w2 h1 h2 h3).mono ?_;rintro e w5 ⟨rfl,hs5,hk5⟩;have HR':Hid (∃ pre,Ws w0 base wp xs W pre w5/\pre++(f.dropN (j+1)).brP=f.brP):=hid ⟨_,hs5,by rw[<- HPRE.out];simp[brkL]⟩;clear hs5 hk5 x0 x1 x2 x3 x4 x5 x6;go_wp2_with fail;go_roundw
    case rel=>exact⟨j+1,HLT,by go_num,HR'⟩
    case measure=>exact mS HLT
  ·obtain rfl:j=n:=by omega
   rw[Tr.dropN_all f j (by rw[<- HL.out];exact lR _)]at hpre;have HQ:=hid (hws.fin (F:=f.brP) (by rw[<- hpre];simp[Tr.brP]));clear hws hpre;go_wp2_with fail;go_end0;exact HQ
set_option maxHeartbeats 8000000
theorem qhH(base wp:Nat)(w0:World)(hwp:w0.heap.size<=wp)(M:Nat):M<=1000000->PaC w0 base wp M:=by
 induction M with
 | zero=>intro _ k s n p A c kids xs W _ h;omega
 | succ M ih=>
  intro hM k s n p A c kids xs W hk hsz hW hw hx;have HS:=hid (Ws.start hW hw hx);have HR:Hid (∀ W,Calls Tryz.prog 107 #[.agg #[.int .u8 k,.string ⟨s.toArray⟩,n,p.a,p.l,p.c,.slice A kids.len c]] W (StR (.tuple #[.agg #[.int .u8 (paR k).1,.int .i64 (paR k).2.1],.bool (paR k).2.2]) W)):=hid fun W=>Jy k s n p A kids.len c W;have HBR:Hid (∀ (pre:List Tn) (w:World),Ws w0 base wp xs W pre w->Calls Tryz.prog 135 #[.pointer (some ⟨wp,0,none⟩),.func (.func 136) #[] #[],.func (.func 108) #[.pointer (some ⟨wp,0,none⟩)] #[],.slice A kids.len c] w (WsQ w0 base wp xs W (pre++kids.brP) w)):=hid fun pre w h=>
   h.run fun r h1 h2 h3=>qa7 base wp M r A kids.len c kids w0 w (ih (by omega)) hwp (RowX.old hk h1 hwp h2) (by omega) (by omega) h1 h2 h3
  obtain⟨tk,htk⟩:=nW ((paR k).1);obtain⟨kc,hkc⟩:=nW ((paR k).2.1);obtain⟨ok,hok⟩:=nW ((paR k).2.2);have HPU:Hid (∀ (pre:List Tn) (w:World) (g:Nat),Ws w0 base wp xs W pre w->g=w.heap.size->Calls Tryz.prog 43 #[.pointer (some ⟨wp,0,none⟩),.slice (some ⟨g,0,none⟩) 1 1] (w.alloc (.cells #[.int .u8 tk,.string ⟨s.toArray⟩,.int .i64 n,.int .i64 0,.int .i64 0,.int .i64 0] 85)) (WsQ w0 base wp xs W (pre++[tk0 tk s n]) w)):=hid fun pre w g h hg=>h.put1g hwp tk s n 1 g hg;obtain⟨F,hF⟩:=nW (qr k s n kids.patK);rw[<- hF];have HF:Hid (F=if k=2 then [tk0 5 [95] 0] else tk0 tk s n::kids.brP):=hid (by rw[hF,htk,<- Tr.brP_patK];rfl);rw[<- htk,<- hkc,<- hok]at HR;obtain⟨T1,hT1⟩:=nW (tk0 tk s n);obtain⟨SS,hSS⟩:=nW (⟨s.toArray⟩:BA);obtain⟨l1,hl1⟩:=nW kids.len;rw[<- hSS,<- hl1]at HR;rw[<- hl1]at HBR;rw[<- hSS,<- hT1]at HPU;rw[<- hT1]at HF;rw[<- hSS,<- hl1];clear hk hsz hW hw hx ih htk hkc hok hF hT1 hSS hl1;have HS1:=hid (HS.bel ((Bel.refl W).alloc (.cells #[.int .u8 k,SS,n,p.a,p.l,p.c,.slice A l1 c] 59)));have HX1:=hid (HS.out.box (.cells #[.int .u8 k,SS,n,p.a,p.l,p.c,.slice A l1 c] 59));by_cases k2:k=2
  ·subst k2
   have hF2:F=[tk0 5 [95] 0]:=HF.out;clear HBR HPU HR HF;go_enter Tryz.func108,Tryz.ntmps108;go_wp2_with fail;refine (qf _ _).mono ?_;rintro e w2 ⟨rfl,hb2⟩;have HS2:=hid (HS1.bel hb2);clear hb2;unfold tokV;go_wp2_with fail;refine (HS2.out.put1 hwp 5 [95] 0 _).mono ?_;rintro e w3 ⟨rfl,hs3,hk3⟩;have HQ:=hid (hs3.fin (F:=F) (by rw[hF2];rfl));clear hs3 hk3 hF2;go_wp2_with fail;go_end0;exact HQ
  have hF2:F=T1::kids.brP:=by rw[HF.out,if_neg k2]
  have HF2:=hid hF2;have d2:(k==2)=false:=by simpa using k2
  clear HF hF2;go_enter Tryz.func108,Tryz.ntmps108;go_wp2_with fail;refine (HR _).mono ?_;rintro e w2 ⟨rfl,hb2⟩;have HS2:=hid (HS1.bel hb2);have HX2:=hid (HS1.out.kp hb2 _ _ HX1);have HS3:=hid (HS2.bel ((Bel.refl w2).alloc (.cells #[.int .u8 tk,kc] 109)));have HX3:=hid (HS2.out.kp ((Bel.refl w2).alloc (.cells #[.int .u8 tk,kc] 109)) _ _ HX2);obtain⟨x0,x1,x2,x3,x4,x5,x6⟩:=box7 HX2.1;have hl2:W.heap.size<w2.heap.size:=(aJ.1 HX2.1).1;clear hb2;go_wp2_with fail;refine (HPU _ _ _ HS3 (by simp)).mono ?_;rintro e w4 ⟨rfl,hs4,hk4⟩;have HS4:=hid hs4;have HX4:=hid (hk4 _ _ HX3);clear x0 x1 x2 x3 x4 x5 x6 hl2;obtain⟨x0,x1,x2,x3,x4,x5,x6⟩:=box7 HX4.1;have hl4:W.heap.size<w4.heap.size:=(aJ.1 HX4.1).1;clear hs4 hk4;go_wp2_with fail;refine (HBR _ _ HS4).mono ?_;rintro e w5 ⟨rfl,hs5,hk5⟩;have HQ:=hid (hs5.fin (F:=F) (by rw[HF2.out];simp));clear hs5 hk5 x0 x1 x2 x3 x4 x5 x6;go_wp2_with fail;go_end0;exact HQ
theorem jh(ka:Int)(sa:LU)(na:Int)(pa:Pl)(kia ara:Tr):(Tr.nod ka sa na pa kia ara .nil).exK 0 []=qe ka sa na kia ara:=by
 rw[zk];simp[brkM,Tr.exK]
theorem dropN_arm{k:Int}{s:LU}{n:Int}{p:Pl}{kids e:Tr}:∀ (f:Tr) (i:Nat),f.nth i=.arm k s n p kids e .nil->f.dropN i=.arm k s n p kids e (f.dropN (i+1))
 | .nil,i,h=>by cases i <;> simp[Tr.nth]at h
 | .arm _ _ _ _ _ _ r,0,h=>by
  simp only[Tr.nth,Tr.arm.injEq]at h;obtain⟨rfl,rfl,rfl,rfl,rfl,rfl,_⟩:=h;cases r <;> rfl
 | .nod _ _ _ _ _ _ r,0,h=>by simp[Tr.nth]at h
 | .nod _ _ _ _ _ _ r,i+1,h=>dropN_arm r i h
 | .arm _ _ _ _ _ _ r,i+1,h=>dropN_arm r i h
theorem qit(k:Int)(s:LU)(n:Int)(p:Pl)(kids e r:Tr)(md:Nat)(sep:List Tn):(Tr.arm k s n p kids e r).exK md sep=sep++qr k s n kids.patK++[jn]++e.exK 0 []++r.exK 0 [jq]:=rfl
theorem Bx.put6{W:World}{wp k:Nat}{t:TypeId}{x0 x1 x2 x3 x4 x5:Value}(h:Bx W wp k (.cells #[x0,x1,x2,x3,x4,x5] t (0,0)))(y0 y1 y2 y3 y4 y5:Value) :
  Bx ((((((W.setCell ⟨k,0,none⟩ y0).setCell ⟨k,1,none⟩ y1).setCell ⟨k,2,none⟩ y2).setCell ⟨k,3,none⟩ y3).setCell ⟨k,4,none⟩ y4).setCell ⟨k,5,none⟩ y5) wp k (.cells #[y0,y1,y2,y3,y4,y5] t (0,0)):=by
 refine⟨Qq h.1 _ _ _ _ _ _,h.2.1,fun v hv=>h.2.2 v ?_⟩;rw[<- hv];unfold World.cell?
 have e:∀ (w:World) (a:Addr) (v:Value),a.block=k->(w.setCell a v).heap[wp]?=w.heap[wp]?:=fun w a v ha=>Below.heap_setCell _ _ _ _ (by rw[ha];exact fun e=>h.2.1 e.symm);simp only[e _ ⟨k,_,none⟩ _ rfl]
theorem Ws.put6{w0:World}{base wp:Nat}{xs:List Tn}{W:World}{pre:List Tn}{w:World}{k:Nat}{t:TypeId}{x0 x1 x2 x3 x4 x5:Value}(h:Ws w0 base wp xs W pre w)(hk:Bx w wp k (.cells #[x0,x1,x2,x3,x4,x5] t (0,0)))(hW:W.heap.size<=k)(hw0:Bel w0 W)(y0 y1 y2 y3 y4 y5:Value) :
  Ws w0 base wp xs W pre ((((((w.setCell ⟨k,0,none⟩ y0).setCell ⟨k,1,none⟩ y1).setCell ⟨k,2,none⟩ y2).setCell ⟨k,3,none⟩ y3).setCell ⟨k,4,none⟩ y4).setCell ⟨k,5,none⟩ y5):=by
 have hs0:=hw0.size;have e:∀ (w:World) (a:Addr) (v:Value) (j:Nat),a.block=k->j≠k->(w.setCell a v).heap[j]?=w.heap[j]?:=fun w a v j ha hj=>Below.heap_setCell _ _ _ _ (by rw[ha];exact hj);have es:∀ (w:World) (a:Addr) (v:Value),(w.setCell a v).heap.size=w.heap.size:=fun w a v=>by simp[World.setCell]
 obtain⟨h1,⟨r,⟨q1,q2,A,n,c,q3,q4,q5⟩,h3,h4⟩,h5⟩:=h;have hkw:=hk.2.1;have c0:w.cell? ⟨wp,0,none⟩=some (.slice A n c):=by simp[World.cell?,q3]
 have hown:=hk.2.2 _ c0;have hk0:w0.heap.size<=k:=lL hs0 hW;refine⟨((((((h1.set_ hk0 _).set_ hk0 _).set_ hk0 _).set_ hk0 _).set_ hk0 _).set_ hk0 _),⟨r,⟨q1,by simp only[es];exact q2,A,n,c,?_,q4,q5.1,?_⟩,h3,h4⟩,?_⟩
 ·simp only[e _ ⟨k,_,none⟩ _ wp rfl (Ne.symm hkw)]
  exact q3
 ·rcases q5.2 with h0 | ⟨g,cap,cur,hv,hbg,hg,rest⟩
  ·exact .inl h0
  ·refine .inr ⟨g,cap,cur,hv,hbg,?_,rest⟩
   have hgk:g≠k:=fun e=>hown (by cases hv;rw[<- e];rfl);simp only[e _ ⟨k,_,none⟩ _ g rfl hgk];exact hg
 ·intro j o hj
  have hjl:j<W.heap.size:=(aJ.1 hj.1).1;have hjk:j≠k:=by omega
  obtain⟨p1,p2,p3⟩:=h5 j o hj;refine⟨?_,p2,fun v hv=>p3 v ?_⟩
  ·simp only[e _ ⟨k,_,none⟩ _ j rfl hjk]
   exact p1
  ·rw[<- hv]
   unfold World.cell?
   simp only[e _ ⟨k,_,none⟩ _ wp rfl (Ne.symm hkw)]
theorem qjq{w:World}{g:Nat}{t:TypeId}{x0 x1 x2 x3 x4 x5 x6 x7 x8 x9 x10 x11 x12 x13 x14:Value}(h:w.heap[g]?=some (.cells #[x0,x1,x2,x3,x4,x5,x6,x7,x8,x9,x10,x11,x12,x13,x14] t (0,0))) :
  (w.cell? ⟨g,0,none⟩=some x0/\w.cell? ⟨g,1,none⟩=some x1/\w.cell? ⟨g,2,none⟩=some x2/\w.cell? ⟨g,3,none⟩=some x3/\w.cell? ⟨g,4,none⟩=some x4/\w.cell? ⟨g,5,none⟩=some x5/\w.cell? ⟨g,6,none⟩=some x6)/\w.cell? ⟨g,7,none⟩=some x7/\w.cell? ⟨g,8,none⟩=some x8/\w.cell? ⟨g,9,none⟩=some x9/\w.cell? ⟨g,10,none⟩=some x10/\w.cell? ⟨g,11,none⟩=some x11/\w.cell? ⟨g,12,none⟩=some x12/\w.cell? ⟨g,13,none⟩=some x13/\w.cell? ⟨g,14,none⟩=some x14:=by
 simp[World.cell?,h]
theorem qed(base wp M:Nat)(hM:M<=1000000)(w0:World)(hwp:w0.heap.size<=wp)(hC:ExC w0 base wp M)(hP:PaC w0 base wp 1000000)(k:Int)(s:LU)(n:Int)(p:Pl)(A:OA)(l c:Nat)(B:OA)(m bc:Nat)(kids arms:Tr)(hk:KidsTr w0 (OldT w0) .ex A l c kids)(ha:KidsTr w0 (OldT w0) .arms B m bc arms)(hl1:l=1)(hsz:kids.size+arms.size<=M)(hsh:kids.shp)(hsa:arms.shp)
  (xs:List Tn) (W:World) (hW:Bel w0 W) (hw:Wri W base wp xs) (hx:xs.length<=5000) :
  Calls Tryz.prog 67 #[.pointer (some ⟨wp,0,none⟩),.agg #[.int .u8 k,.string ⟨s.toArray⟩,.int .i64 n,.int .i64 p.a,.int .i64 p.l,.int .i64 p.c,.slice A l c,.slice B m bc]] W (WrQ w0 base wp xs (jK::kids.exK 0 []++[kwOf]++arms.exK 0 [jj]++[zH]) W):=by
 have HS:=hid (Ws.start hW hw hx);have HWW:=hid hW;obtain⟨b,o,ka,sa,na,pa,kia,ara,A1,c1,B1,d1,rfl,rfl,hlt,hc1,hk1,ha1⟩:=qcT (by intro e;cases e) hk hl1;have ha1':KidsTr w0 (OldT w0) .arms B1 ara.len d1 ara:=by
  rcases ha1 with h | ⟨h | h,_⟩
  ·exact h.2
  ·cases h
  ·cases h
 rw[jh];simp only[Tr.size]at hsz;have HP1:=hid fun xs' W'=>hC ka sa na pa A1 c1 B1 d1 kia ara xs' W' hk1 ha1' (by simp only[Tr.size];omega) hsh;have HCX:=hid hC;have HCP:=hid hP;have HAR:Hid (∀ (pre:List Tn) (w:World),Ws w0 base wp xs W pre w->RowX w0 w wp .arms B m arms):=hid fun pre w h=>ha.old hwp h;have HAL:Hid (m=arms.len):=hid ha.1;have HAZ:Hid (arms.size<=M/\arms.shp):=hid ⟨by omega,hsa⟩;have hm:m<=1000000:=by have:=ha.1;have:=arms.len_le;omega
 have HCC1:=hid hc1;obtain⟨SS,hSS⟩:=nW (⟨s.toArray⟩:BA);obtain⟨SA,hSA⟩:=nW (⟨sa.toArray⟩:BA);obtain⟨F1,hF1⟩:=nW (qe ka sa na kia ara);obtain⟨l1,hl1'⟩:=nW kia.len;obtain⟨m1,hm1⟩:=nW ara.len;rw[<- hl1',<- hm1]at HCC1;rw[<- hSA,<- hF1,<- hl1',<- hm1]at HP1;rw[<- hSS,<- hF1,hl1];obtain⟨G,hG⟩:=nW (jK::F1++[kwOf]++arms.exK 0 [jj]);rw[<- hG];have HG:=hid hG;have HSA:=hid hSA;clear hG hk ha hsz hsh hsa hC hP hc1 hk1 ha1 ha1' hlt hSS hSA hF1 hl1 hl1' hm1 hW hw hx;have HS1:=hid (HS.bel ((Bel.refl W).alloc (.cells #[.int .u8 k,SS,n,p.a,p.l,p.c,.slice (some ⟨b,o,none⟩) 1 c,.slice B m bc] 28)));have HX1:=hid (HS.out.box (.cells #[.int .u8 k,SS,n,p.a,p.l,p.c,.slice (some ⟨b,o,none⟩) 1 c,.slice B m bc] 28));go_enter Tryz.func67,Tryz.ntmps67;go_wp2_with fail;refine (qf _ _).mono ?_;rintro e w2 ⟨rfl,hb2⟩;have HS2:=hid (HS1.bel hb2);have HX2:=hid (HS1.out.kp hb2 _ _ HX1);clear hb2;unfold tokV;go_wp2_with fail;refine (HS2.out.put1 hwp 5 [99,97,115,101] 0 _).mono ?_;rintro e w3 ⟨rfl,hs3,hk3⟩;have HS3:=hid hs3;have HX3:=hid (hk3 _ _ HX2);obtain⟨x0,x1,x2,x3,x4,x5,x6,x7⟩:=box8 HX3.1;have hl3:W.heap.size<w3.heap.size:=(aJ.1 HX3.1).1;have y0:=HCC1.out _ HS3.1 0 _ rfl;have y1:=HCC1.out _ HS3.1 1 _ rfl;have y2:=HCC1.out _ HS3.1 2 _ rfl;have y3:=HCC1.out _ HS3.1 3 _ rfl;have y4:=HCC1.out _ HS3.1 4 _ rfl;have y5:=HCC1.out _ HS3.1 5 _ rfl;have y6:=HCC1.out _ HS3.1 6 _ rfl;have y7:=HCC1.out _ HS3.1 7 _ rfl;simp only[Sh.kd,nZz]at y0 y1 y2 y3 y4 y5 y6 y7;rw[<- HSA.out]at y1;clear hs3 hk3;go_wp2_with fail;refine (HS3.run fun r h1 h2 h3=>HP1 r w3 h1 h2 h3).mono ?_;rintro e w4 ⟨rfl,hs4,hk4⟩;have HS4:=hid hs4;have HX4:=hid (hk4 _ _ HX3);clear hs4 hk4 y0 y1 y2 y3 y4 y5 y6 y7 x0 x1 x2 x3 x4 x5 x6 x7 hl3;go_wp2_with fail;refine (qf _ _).mono ?_;rintro e w5 ⟨rfl,hb5⟩;have HS5:=hid (HS4.bel hb5);have HX5:=hid (HS4.out.kp hb5 _ _ HX4);clear hb5;unfold tokV;go_wp2_with fail;refine (HS5.out.put1 hwp 5 [111,102] 0 _).mono ?_;rintro e w6 ⟨rfl,hs6,hk6⟩;have HS6:=hid hs6;have HX6:=hid (hk6 _ _ HX5);clear hs6 hk6;go_wp2_with fail;refine (qf _ _).mono ?_;rintro e w7 ⟨rfl,hb7⟩;have hs7:=HS6.bel hb7;have hx7:=HS6.out.kp hb7 _ _ HX6;have hb8:Bel w7 (w7.alloc (.cells #[.int .u8 5,.string ⟨#[123]⟩,(0:Int),(0:Int),(0:Int),(0:Int)] 85)):=(Bel.refl w7).alloc _;have hs8:=hs7.bel hb8;have hx8:=hs7.kp hb8 _ _ hx7;have hA8:=hs7.box (.cells #[.int .u8 5,.string ⟨[123].toArray⟩,(0:Int),(0:Int),(0:Int),(0:Int)] 85);obtain⟨x0,x1,x2,x3,x4,x5,x6,x7⟩:=box8 hx7.1;have hl7:W.heap.size<w7.heap.size:=(aJ.1 hx7.1).1;have HI:Hid (∃ pre sj,Ws w0 base wp xs W pre (w7.alloc (.cells #[.int .u8 5,.string ⟨#[123]⟩,(0:Int),(0:Int),(0:Int),(0:Int)] 85))/\Bx (w7.alloc (.cells #[.int .u8 5,.string ⟨#[123]⟩,(0:Int),(0:Int),(0:Int),(0:Int)] 85)) wp w7.heap.size (.cells #[.int .u8 5,.string ⟨List.toArray sj⟩,(0:Int),(0:Int),(0:Int),(0:Int)] 85)/\pre++(arms.dropN 0).exK 0 [tk0 5 sj 0]=G):=hid ⟨_,[123],hs8,hA8,by
  have e:arms.dropN 0=arms:=by cases arms <;> rfl
  rw[e,HG.out];rfl⟩
 have HWL:Hid (W.heap.size<=w7.heap.size):=hid (Nat.le_of_lt hl7);clear hb7 hs7 hx7 hb8 hs8 hx8 hA8 HS1 HS2 HS3 HS4 HS5 HS6 HX1 HX2 HX3 HX4 HX5 HX6;unfold tokV;go_wp2_with fail;go_loopw [25] (fun i wr=>∃ j:Nat,j<=m/\i=.int .i64 (j:Int)/\Hid (∃ pre sj,Ws w0 base wp xs W pre wr/\Bx wr wp w7.heap.size (.cells #[.int .u8 5,.string ⟨List.toArray sj⟩,(0:Int),(0:Int),(0:Int),(0:Int)] 85)/\pre++(arms.dropN j).exK 0 [tk0 5 sj 0]=G)) (fun i _=>m-(intOf i).toNat)
 case atStart=>exact⟨0,zL _,rfl,HI⟩
 case round=>
  obtain⟨j,hj,rfl,HR⟩:=hrel;obtain⟨pre,sj,hws,hbx,hpre⟩:=HR.out;by_cases hlt:j<m
  ·obtain⟨ub,uo,k',s',n',p',kd,k2,s2,n2,p2,kids2,arms2,A3,c3,A4,c4,B4,bc4,eB,⟨uob,hub⟩,hnth,hcp,hce,hkp,hke,hka⟩:=(HAR pre wr hws).arm hws.1 hlt
   subst eB;have hns:1+kd.size+(1+kids2.size+arms2.size)<=M:=by
    have h1:=arms.nth_size j;rw[hnth]at h1;simp only[Tr.size]at h1;have:=HAZ.1;omega
   have hnp:(Tr.nod k2 s2 n2 p2 kids2 arms2 .nil).shp:=by
    have:=arms.nth_shp j HAZ.2;rw[hnth]at this;exact this.1
   have hdr:(arms.dropN j).exK 0 [tk0 5 sj 0]=[tk0 5 sj 0]++qr k' s' n' kd.patK++[jn]++qe k2 s2 n2 kids2 arms2++(arms.dropN (j+1)).exK 0 [jq]:=by rw[dropN_arm arms j hnth,qit,jh]
   have HPC:=hid fun xs' W'=>HCP k' s' n' p' A3 c3 kd xs' W' hkp (by omega);have HEC:=hid fun xs' W'=>HCX k2 s2 n2 p2 A4 c4 B4 bc4 kids2 arms2 xs' W' hke hka (by simp only[Tr.size];omega) hnp;have HPU:Hid (∀ (pre:List Tn) (w:World) (g:Nat),Ws w0 base wp xs W pre w->g=w.heap.size->Calls Tryz.prog 43 #[.pointer (some ⟨wp,0,none⟩),.slice (some ⟨g,0,none⟩) 1 1] (w.alloc (.cells #[.int .u8 5,.string ⟨sj.toArray⟩,.int .i64 0,.int .i64 0,.int .i64 0,.int .i64 0] 85)) (WsQ w0 base wp xs W (pre++[tk0 5 sj 0]) w)):=hid fun pre w g h hg=>h.put1g hwp 5 sj 0 1 g hg;have y0:=hcp 0 _ rfl;have y1:=hcp 1 _ rfl;have y2:=hcp 2 _ rfl;have y3:=hcp 3 _ rfl;have y4:=hcp 4 _ rfl;have y5:=hcp 5 _ rfl;have y6:=hcp 6 _ rfl;have z0:wr.cell? ⟨ub,uo+j*15+7,none⟩=_:=hce 0 _ rfl;have z1:wr.cell? ⟨ub,uo+j*15+8,none⟩=_:=hce 1 _ rfl;have z2:wr.cell? ⟨ub,uo+j*15+9,none⟩=_:=hce 2 _ rfl;have z3:wr.cell? ⟨ub,uo+j*15+10,none⟩=_:=hce 3 _ rfl;have z4:wr.cell? ⟨ub,uo+j*15+11,none⟩=_:=hce 4 _ rfl;have z5:wr.cell? ⟨ub,uo+j*15+12,none⟩=_:=hce 5 _ rfl;have z6:wr.cell? ⟨ub,uo+j*15+13,none⟩=_:=hce 6 _ rfl;have z7:wr.cell? ⟨ub,uo+j*15+14,none⟩=_:=hce 7 _ rfl;simp only[Sh.kd,nZz]at y0 y1 y2 y3 y4 y5 y6 z0 z1 z2 z3 z4 z5 z6 z7;obtain⟨SP,hSP⟩:=nW (⟨s'.toArray⟩:BA);obtain⟨SE,hSE⟩:=nW (⟨s2.toArray⟩:BA);obtain⟨SJ,hSJ⟩:=nW (⟨sj.toArray⟩:BA);obtain⟨FP,hFP⟩:=nW (qr k' s' n' kd.patK);obtain⟨FE,hFE⟩:=nW (qe k2 s2 n2 kids2 arms2);obtain⟨l3,hl3⟩:=nW kd.len;obtain⟨l4,hl4⟩:=nW kids2.len;obtain⟨m4,hm4⟩:=nW arms2.len;rw[hdr,<- hFP,<- hFE]at hpre;rw[<- hSP,<- hFP,<- hl3]at HPC;rw[<- hSE,<- hFE,<- hl4,<- hm4]at HEC;rw[<- hSJ]at HPU hbx;rw[<- hSP]at y1;rw[<- hl3]at y6;rw[<- hSE]at z1;rw[<- hl4]at z6;rw[<- hm4]at z7;have HPRE:=hid hpre;have HWSR:=hid hws;have HB1:Hid (Bel wr (wr.alloc (.cells #[.int .u8 k',SP,n',p'.a,p'.l,p'.c,.slice A3 l3 c3,.int .u8 k2,SE,n2,p2.a,p2.l,p2.c,.slice A4 l4 c4,.slice B4 m4 bc4] 61))):=hid ((Bel.refl wr).alloc _);have HS1:=hid (hws.bel HB1);have HX1:=hid (hws.box (.cells #[.int .u8 k',SP,n',p'.a,p'.l,p'.c,.slice A3 l3 c3,.int .u8 k2,SE,n2,p2.a,p2.l,p2.c,.slice A4 l4 c4,.slice B4 m4 bc4] 61));have HA1:=hid (hws.kp HB1 _ _ hbx);obtain⟨a0,a1,a2,a3,a4,a5⟩:=(QC hbx.1).1;have hab:w7.heap.size<wr.heap.size:=(aJ.1 hbx.1).1;have hob':ub<wr.heap.size:=(aJ.1 hub.1).1;have i1:(0:Int)<=(j:Int):=by omega
   have i2:(j:Int)<(m:Int):=by omega
   have HLT:=hid hlt;clear hcp hce hkp hke hka hns hnp hdr hpre hSP hSE hSJ hFP hFE hl3 hl4 hm4 hnth hub hws hbx HR;go_wp2_with fail;refine (HPU _ _ (wr.heap.size+1) HS1 (by simp)).mono ?_;rintro e w2 ⟨rfl,hs2,hk2⟩;have HS2:=hid hs2;have HX2:=hid (hk2 _ _ HX1);have HA2:=hid (hk2 _ _ HA1);obtain⟨x0,x1,x2,x3,x4,x5,x6⟩:=(qjq HX2.1).1;have hl2:wr.heap.size<w2.heap.size:=(aJ.1 HX2.1).1;clear hs2 hk2 y0 y1 y2 y3 y4 y5 y6 z0 z1 z2 z3 z4 z5 z6 z7 a0 a1 a2 a3 a4 a5 hob' HPU HS1 HX1 HA1;go_wp2_with fail;refine (HS2.run fun r h1 h2 h3=>HPC r w2 h1 h2 h3).mono ?_;rintro e w3 ⟨rfl,hs3,hk3⟩;have HS3:=hid hs3;have HX3:=hid (hk3 _ _ HX2);have HA3:=hid (hk3 _ _ HA2);clear hs3 hk3 x0 x1 x2 x3 x4 x5 x6 hl2 HPC HS2 HX2 HA2;go_wp2_with fail;refine (qf _ _).mono ?_;rintro e w4 ⟨rfl,hb4⟩;have HS4:=hid (HS3.bel hb4);have HX4:=hid (HS3.out.kp hb4 _ _ HX3);have HA4:=hid (HS3.out.kp hb4 _ _ HA3);clear hb4 HS3 HX3 HA3;unfold tokV;go_wp2_with fail;refine (HS4.out.put1 hwp 5 [45,62] 0 _).mono ?_;rintro e w5 ⟨rfl,hs5,hk5⟩;have HS5:=hid hs5;have HX5:=hid (hk5 _ _ HX4);have HA5:=hid (hk5 _ _ HA4);obtain⟨x7,x8,x9,x10,x11,x12,x13,x14⟩:=(qjq HX5.1).2;have hl5:wr.heap.size<w5.heap.size:=(aJ.1 HX5.1).1;clear hs5 hk5 HS4 HX4 HA4;go_wp2_with fail;refine (HS5.run fun r h1 h2 h3=>HEC r w5 h1 h2 h3).mono ?_;rintro e w6 ⟨rfl,hs6,hk6⟩;have HS6:=hid hs6;have HA6:=hid (hk6 _ _ HA5);clear hs6 hk6 x7 x8 x9 x10 x11 x12 x13 x14 hl5 HEC HS5 HX5 HA5;go_wp2_with fail;refine (qf _ _).mono ?_;rintro e w8 ⟨rfl,hb8⟩;have HS8:=hid (HS6.bel hb8);have HA8:=hid (HS6.out.kp hb8 _ _ HA6);obtain⟨⟨a0,a1,a2,a3,a4,a5⟩,f0,f1,f2,f3,f4,f5⟩:=QC HA8.1;have hl8:w7.heap.size<w8.heap.size:=(aJ.1 HA8.1).1;have HR':Hid (∃ pre sj,Ws w0 base wp xs W pre ((((((w8.setCell ⟨w7.heap.size,0,none⟩ (.int .u8 5)).setCell ⟨w7.heap.size,1,none⟩ (.string ⟨#[59]⟩)).setCell ⟨w7.heap.size,2,none⟩ (.int .i64 0)).setCell ⟨w7.heap.size,3,none⟩ (.int .i64 0)).setCell ⟨w7.heap.size,4,none⟩ (.int .i64 0)).setCell ⟨w7.heap.size,5,none⟩ (.int .i64 0))/\Bx ((((((w8.setCell ⟨w7.heap.size,0,none⟩ (.int .u8 5)).setCell ⟨w7.heap.size,1,none⟩ (.string ⟨#[59]⟩)).setCell ⟨w7.heap.size,2,none⟩ (.int .i64 0)).setCell ⟨w7.heap.size,3,none⟩ (.int .i64 0)).setCell ⟨w7.heap.size,4,none⟩ (.int .i64 0)).setCell ⟨w7.heap.size,5,none⟩ (.int .i64 0)) wp w7.heap.size (.cells #[.int .u8 5,.string ⟨List.toArray sj⟩,(0:Int),(0:Int),(0:Int),(0:Int)] 85)/\pre++(arms.dropN (j+1)).exK 0 [tk0 5 sj 0]=G):=hid ⟨_,[59],HS8.out.put6 HA8 HWL HWW _ _ _ _ _ _,HA8.out.put6 _ _ _ _ _ _,by
    rw[<- HPRE.out];simp only[aAa];rfl⟩
   clear hb8 HS6 HA6 HS8 HA8;unfold tokV;go_wp2_with fail;go_roundw
   case rel=>exact⟨j+1,HLT,by go_num,HR'⟩
   case measure=>exact mS HLT
  ·obtain rfl:j=m:=by omega
   rw[Tr.dropN_all arms j (by rw[<- HAL.out];exact lR _)]at hpre;have hG:pre=G:=by rw[<- hpre];simp[Tr.exK]
   have HQ0:=hid hws;clear hws hbx hpre;go_wp2_with fail;refine (qf _ _).mono ?_;rintro e w8 ⟨rfl,hb8⟩;have HS8:=hid (HQ0.bel hb8);clear hb8;unfold tokV;go_wp2_with fail;refine (HS8.out.put1 hwp 5 [125] 0 _).mono ?_;rintro e w9 ⟨rfl,hs9,hk9⟩;have HQ:=hid (hs9.fin (F:=G++[zH]) (by rw[hG];rfl));clear hs9 hk9 hG;go_wp2_with fail;go_end0;exact HQ
set_option maxHeartbeats 16000000
def fdsK:List Fd->List Tn
 | []=>[]
 | f::fs=>zg f.m::brkL (alnT f.k f.kids.len) (qv f.k f.s f.n f.kids)++fdsK fs
def jH(ah:LU):List Cd->List Tn
 | []=>[]
 | c::cs=>tk0 5 ah 0::tk0 2 c.nm 0::fdsK c.fs++jH [124] cs
def psK:List LU->List Tn
 | []=>[]
 | s::ps=>tk0 1 s 0::psK ps
def J2(nm:LU)(ps:List LU)(cs:List Cd):List Tn:=tk0 5 [100,97,116,97] 0::tk0 2 nm 0::psK ps++jH [61] cs
theorem qcW{ps:List LU}{j:Nat}{x:LU}(h:ps[j]?=some x):psK (ps.drop j)=tk0 1 x 0::psK (ps.drop (j+1)):=by
 obtain⟨h1,h2⟩:=eJ.1 h;rw[List.drop_eq_getElem_cons h1,h2];rfl
theorem qad{cs:List Cd}{j:Nat}{x:Cd}{ah:LU}(h:cs[j]?=some x):jH ah (cs.drop j)=tk0 5 ah 0::tk0 2 x.nm 0::fdsK x.fs++jH [124] (cs.drop (j+1)):=by
 obtain⟨h1,h2⟩:=eJ.1 h;rw[List.drop_eq_getElem_cons h1,h2];rfl
theorem qbk{fs:List Fd}{j:Nat}{x:Fd}(h:fs[j]?=some x):fdsK (fs.drop j)=zg x.m::brkL (alnT x.k x.kids.len) (qv x.k x.s x.n x.kids)++fdsK (fs.drop (j+1)):=by
 obtain⟨h1,h2⟩:=eJ.1 h;rw[List.drop_eq_getElem_cons h1,h2];rfl
theorem qff(m:Int):qcV m=.agg #[.int .u8 (zg m).k,.string ⟨(zg m).s.toArray⟩,.int .i64 (zg m).n,(0:Int),(0:Int),(0:Int)]/\tk0 (zg m).k (zg m).s (zg m).n=zg m:=by
 unfold qcV zg;split
 ·exact⟨rfl,rfl⟩
 split
 ·exact⟨rfl,rfl⟩
 ·exact⟨rfl,rfl⟩
theorem qhN{w:World}{g:Nat}{t:TypeId}{x0 x1 x2 x3 x4 x5 x6 x7:Value}(h:w.heap[g]?=some (.cells #[x0,x1,x2,x3,x4,x5,x6,x7] t (0,0))) :
  w.cell? ⟨g,0,none⟩=some x0/\w.cell? ⟨g,1,none⟩=some x1/\w.cell? ⟨g,2,none⟩=some x2/\w.cell? ⟨g,3,none⟩=some x3/\w.cell? ⟨g,4,none⟩=some x4/\w.cell? ⟨g,5,none⟩=some x5/\w.cell? ⟨g,6,none⟩=some x6/\w.cell? ⟨g,7,none⟩=some x7:=by
 simp[World.cell?,h]
theorem qkh{w:World}{g:Nat}{t:TypeId}{x0 x1 x2 x3 x4:Value}(h:w.heap[g]?=some (.cells #[x0,x1,x2,x3,x4] t (0,0))):w.cell? ⟨g,4,none⟩=some x4:=by
 simp[World.cell?,h]
def Fd.shw(x:Fd):Prop:=1+x.kids.size<=1000000/\x.tr.shpT
def Cd.shw(x:Cd):Prop:=x.fs.length<=1000000/\∀ f∈x.fs,f.shw
theorem qgl(base wp:Nat)(w0:World)(hwp:w0.heap.size<=wp)(kd:Int)(nm:LU)(q:Pl)(PA:OA)(pl pc:Nat)(ps:List LU)(CA:OA)(cl cc:Nat)(cs:List Cd)(rc:Bool)(k:Int)(S:BA)(n:Int)(p:Pl)(A:OA)(kl c:Nat)(B:OA)(al bc:Nat)
  (hp:RowOf 1 SAt w0 (OldT w0) PA pl pc ps) (hc:RowOf 5 CdAt w0 (OldT w0) CA cl cc cs) (hpl:pl<=1100000) (hcl:cl<=1000000) (hsh:∀ x∈cs,x.shw) (xs:List Tn) (W:World) (hW:Bel w0 W) (hw:Wri W base wp xs) (hx:xs.length<=5000) :
  Calls Tryz.prog 42 #[.pointer (some ⟨wp,0,none⟩),.agg #[.int .u8 kd,.string ⟨nm.toArray⟩,q.a,q.l,q.c,.slice PA pl pc,.slice CA cl cc,.bool rc,.int .u8 k,S,n,p.a,p.l,p.c,.slice A kl c,.slice B al bc]] W (WrQ w0 base wp xs (J2 nm ps cs) W):=by
 have HS:=hid (Ws.start hW hw hx);have HWW:=hid hW;have HP:=hid hp;have HC:=hid hc;have HPL:Hid (pl=ps.length):=hid hp.1;have HCL:Hid (cl=cs.length):=hid hc.1;have HSH:=hid hsh;have HTY:Hid (TyC w0 base wp 1000000):=hid (qjl base wp w0 hwp 1000000 (lR _));obtain⟨NM,hNM⟩:=nW (⟨nm.toArray⟩:BA);obtain⟨T0,hT0⟩:=nW (tk0 2 nm 0);have HPU:Hid (∀ (pre:List Tn) (w:World) (g:Nat),Ws w0 base wp xs W pre w->w.heap[g]?=some (.cells #[.int .u8 5,.string ⟨#[100,97,116,97]⟩,.int .i64 0,.int .i64 0,.int .i64 0,.int .i64 0,.int .u8 2,.string NM,.int .i64 0,.int .i64 0,.int .i64 0,.int .i64 0] 85 (0,0))->Calls Tryz.prog 43 #[.pointer (some ⟨wp,0,none⟩),.slice (some ⟨g,0,none⟩) 2 2] w (WsQ w0 base wp xs W (pre++[tk0 5 [100,97,116,97] 0,T0]) w)):=hid fun pre w g h hg=>by
  rw[hT0];rw[hNM]at hg;exact h.run fun r h1 h2 h3=>qeg base wp r [tk0 5 [100,97,116,97] 0,tk0 2 nm 0] g 2 _ w0 w w h1 hwp h2 (Bel.refl _) h3 (by simp) (by simp) hg (zM _)
 obtain⟨F,hF⟩:=nW (J2 nm ps cs);rw[<- hF];have HF:Hid (F=tk0 5 [100,97,116,97] 0::T0::psK ps++jH [61] cs):=hid (by rw[hF,hT0];rfl);rw[<- hNM];clear hp hc hsh hW hw hx hNM hT0 hF;have HB1:Hid (Bel W (W.alloc (.cells #[.int .u8 kd,NM,q.a,q.l,q.c,.slice PA pl pc,.slice CA cl cc,.bool rc,.int .u8 k,S,n,p.a,p.l,p.c,.slice A kl c,.slice B al bc] 52))):=hid ((Bel.refl W).alloc _);have HS1:=hid (HS.bel HB1);have HX1:=hid (HS.out.box (.cells #[.int .u8 kd,NM,q.a,q.l,q.c,.slice PA pl pc,.slice CA cl cc,.bool rc,.int .u8 k,S,n,p.a,p.l,p.c,.slice A kl c,.slice B al bc] 52));go_enter Tryz.func42,Tryz.ntmps42;go_wp2_with fail;refine qfF wp W.heap.size NM (.int .u8 kd) (.int .i64 q.a) (.int .i64 q.l) (.int .i64 q.c) (.slice PA pl pc) (.slice CA cl cc) (.bool rc) (.int .u8 k) (.string S) (.int .i64 n) (.int .i64 p.a) (.int .i64 p.l) (.int .i64 p.c) (.slice A kl c) (.slice B al bc) _ (W.alloc (.cells #[.int .u8 kd,NM,q.a,q.l,q.c,.slice PA pl pc,.slice CA cl cc,.bool rc,.int .u8 k,S,n,p.a,p.l,p.c,.slice A kl c,.slice B al bc] 52)) HX1.1 _ ?_;intro V w2 hb2 hv0 ⟨g,hv5,hg⟩;simp only[finP,zz,Nat.reduceAdd,jA,jB,jC,jD,jE,regWd,jF,jG,hv0,hv5];have HS2:=hid (HS1.bel ((Bel.refl _).drew.on hb2));have HX2:=hid (HS1.out.kp ((Bel.refl _).drew.on hb2) _ _ HX1);have HG2:=hid hg;clear hb2 hv0 hv5 hg;go_wp2_with fail;refine (HPU _ _ g HS2 HG2).mono ?_;rintro e w3 ⟨rfl,hs3,hk3⟩;have HS3:=hid hs3;have HX3:=hid (hk3 _ _ HX2);have hx5:=(qac HX3.1).2;have hl3:W.heap.size<w3.heap.size:=(aJ.1 HX3.1).1;obtain⟨G,hG⟩:=nW (tk0 5 [100,97,116,97] 0::T0::psK ps);have HG:=hid hG;have HI:Hid (∃ pre,Ws w0 base wp xs W pre w3/\Bx w3 wp W.heap.size (.cells #[.int .u8 kd,NM,q.a,q.l,q.c,.slice PA pl pc,.slice CA cl cc,.bool rc,.int .u8 k,S,n,p.a,p.l,p.c,.slice A kl c,.slice B al bc] 52 (0,0))/\pre++psK (ps.drop 0)=G):=hid ⟨_,HS3,HX3,by rw[HG.out];rfl⟩;clear hs3 hk3 hG HS1 HS2 HS3 HX1 HX2 HX3;go_wp2_with fail;go_loopw [21] (fun i wr=>∃ j:Nat,j<=pl/\i=.int .i64 (j:Int)/\Hid (∃ pre,Ws w0 base wp xs W pre wr/\Bx wr wp W.heap.size (.cells #[.int .u8 kd,NM,q.a,q.l,q.c,.slice PA pl pc,.slice CA cl cc,.bool rc,.int .u8 k,S,n,p.a,p.l,p.c,.slice A kl c,.slice B al bc] 52 (0,0))/\pre++psK (ps.drop j)=G)) (fun i _=>pl-(intOf i).toNat)
 case atStart=>exact⟨0,zL _,rfl,HI⟩
 case round=>
  obtain⟨j,hj,rfl,HR⟩:=hrel;obtain⟨pre,hws,hbx,hpre⟩:=HR.out;by_cases hlt:j<pl
  ·obtain⟨ub,uo,eA,hob,hfo⟩:=(HP.keep jx (fun j hj=>hws.1.block j hj) (fun _ h=>h)).2.2 (by omega)
   subst eA;obtain⟨x,hx⟩:∃ x,ps[j]?=some x:=⟨_,eG (by rw[<- HPL.out];exact hlt)⟩
   have y0:wr.cell? ⟨ub,uo+j,none⟩=some (.string ⟨x.toArray⟩):=by
    have:=hfo j x hx;unfold SAt at this;rwa [Nat.mul_one]at this
   rw[qcW hx]at hpre;have HPN:Hid (∀ (w:World) (g:Nat),Ws w0 base wp xs W pre w->g=w.heap.size->Calls Tryz.prog 43 #[.pointer (some ⟨wp,0,none⟩),.slice (some ⟨g,0,none⟩) 1 1] (w.alloc (.cells #[.int .u8 1,.string ⟨x.toArray⟩,.int .i64 0,.int .i64 0,.int .i64 0,.int .i64 0] 85)) (WsQ w0 base wp xs W (pre++[tk0 1 x 0]) w)):=hid fun w g h hg=>h.put1g hwp 1 x 0 1 g hg;obtain⟨SX,hSX⟩:=nW (⟨x.toArray⟩:BA);rw[<- hSX]at y0 HPN;have HS1:=hid hws;have HX1:=hid hbx;have HPRE:=hid hpre;have hob':ub<wr.heap.size:=lT hob hws.1.size;have i1:(0:Int)<=(j:Int):=by omega
   have i2:(j:Int)<(pl:Int):=by omega
   have HLT:=hid hlt;clear hfo hx hSX hpre hws hbx hob HR HI;go_wp2_with fail;refine (zK _ _).mono ?_;rintro e w5 ⟨rfl,hb5⟩;have HS5:=hid (HS1.bel hb5);have HX5:=hid (HS1.out.kp hb5 _ _ HX1);clear hb5 y0 hob';unfold tokV;go_wp2_with fail;refine (HPN _ _ HS5 rfl).mono ?_;rintro e w6 ⟨rfl,hs6,hk6⟩;have HR':Hid (∃ pre,Ws w0 base wp xs W pre w6/\Bx w6 wp W.heap.size (.cells #[.int .u8 kd,NM,q.a,q.l,q.c,.slice (some ⟨ub,uo,none⟩) pl pc,.slice CA cl cc,.bool rc,.int .u8 k,S,n,p.a,p.l,p.c,.slice A kl c,.slice B al bc] 52 (0,0))/\pre++psK (ps.drop (j+1))=G):=hid ⟨_,hs6,hk6 _ _ HX5,by rw[<- HPRE.out];simp⟩;clear hs6 hk6;go_wp2_with fail;go_roundw
   case rel=>exact⟨j+1,HLT,by go_num,HR'⟩
   case measure=>exact mS HLT
  ·obtain rfl:j=pl:=by omega
   rw[dNn (by rw[<- HPL.out];exact lR _)]at hpre;have hpG:pre=G:=by rw[<- hpre];simp[psK]
   subst hpG;have HS4:=hid hws;have HX4:=hid hbx;have hl4:W.heap.size<wr.heap.size:=(aJ.1 hbx.1).1;clear hws hbx hpre HR HI hx5 hl3;go_wp2_with fail;refine (qf _ _).mono ?_;rintro e w7 ⟨rfl,hb7⟩;have hs7:=HS4.bel hb7;have hx7:=HS4.out.kp hb7 _ _ HX4;have hb8:Bel w7 (w7.alloc (.cells #[.int .u8 5,.string ⟨#[61]⟩,(0:Int),(0:Int),(0:Int),(0:Int)] 85)):=(Bel.refl w7).alloc _;have hs8:=hs7.bel hb8;have hA8:=hs7.box (.cells #[.int .u8 5,.string ⟨[61].toArray⟩,(0:Int),(0:Int),(0:Int),(0:Int)] 85);have x6:=(qdv hx7.1).1;have hl7:W.heap.size<w7.heap.size:=(aJ.1 hx7.1).1;have HWL:Hid (W.heap.size<=w7.heap.size):=hid (Nat.le_of_lt hl7);have HJ:Hid (∃ pre2 sj,Ws w0 base wp xs W pre2 (w7.alloc (.cells #[.int .u8 5,.string ⟨#[61]⟩,(0:Int),(0:Int),(0:Int),(0:Int)] 85))/\Bx (w7.alloc (.cells #[.int .u8 5,.string ⟨#[61]⟩,(0:Int),(0:Int),(0:Int),(0:Int)] 85)) wp w7.heap.size (.cells #[.int .u8 5,.string ⟨List.toArray sj⟩,(0:Int),(0:Int),(0:Int),(0:Int)] 85)/\pre2++jH sj (cs.drop 0)=F):=hid ⟨_,[61],hs8,hA8,by rw[HF.out,HG.out];rfl⟩;clear hb7 hs7 hx7 hb8 hs8 hA8 HS4 HX4 hl4;unfold tokV;go_wp2_with fail;go_loopw [35] (fun i wr=>∃ j:Nat,j<=cl/\i=.int .i64 (j:Int)/\Hid (∃ pre2 sj,Ws w0 base wp xs W pre2 wr/\Bx wr wp w7.heap.size (.cells #[.int .u8 5,.string ⟨List.toArray sj⟩,(0:Int),(0:Int),(0:Int),(0:Int)] 85)/\pre2++jH sj (cs.drop j)=F)) (fun i _=>cl-(intOf i).toNat)
   case atStart=>exact⟨0,zL _,rfl,HJ⟩
   case round=>
    obtain⟨j2,hj2,rfl,HR⟩:=hrel;rename World=>wo
    obtain⟨pre2,sj,hws,hbx,hpre⟩:=HR.out;by_cases hlt:j2<cl
    ·obtain⟨ub,uo,eA,hob,hfo⟩:=(HC.keep zN (fun j hj=>hws.1.block j hj) (fun _ h=>h)).2.2 (by omega)
     subst eA;obtain⟨x,hx⟩:∃ x,cs[j2]?=some x:=⟨_,eG (by rw[<- HCL.out];exact hlt)⟩
     have hxs:=HSH.out x (mGg hx);obtain⟨y0,y1,y2,y3,FA,fc,y4,hfs⟩:=hfo j2 x hx;rw[qad hx]at hpre;obtain⟨cn,cp,fs⟩:=x;simp only[]at y0 y1 y2 y3 y4 hfs hpre;have hfs0:RowOf 8 FdAt w0 (OldT w0) FA fs.length fc fs:=hfs.keep QW (fun j hj=>(hws.1.block j hj).symm) (fun _ h=>h);obtain⟨fl,hfl⟩:=nW fs.length;obtain⟨CN,hCN⟩:=nW (⟨cn.toArray⟩:BA);obtain⟨SJ,hSJ⟩:=nW (⟨sj.toArray⟩:BA);obtain⟨T1,hT1⟩:=nW (tk0 5 sj 0);obtain⟨T2,hT2⟩:=nW (tk0 2 cn 0);have HPC:Hid (∀ (pre:List Tn) (w:World) (g:Nat),Ws w0 base wp xs W pre w->w.heap[g]?=some (.cells #[.int .u8 5,.string SJ,.int .i64 0,.int .i64 0,.int .i64 0,.int .i64 0,.int .u8 2,.string CN,.int .i64 0,.int .i64 0,.int .i64 0,.int .i64 0] 85 (0,0))->Calls Tryz.prog 43 #[.pointer (some ⟨wp,0,none⟩),.slice (some ⟨g,0,none⟩) 2 2] w (WsQ w0 base wp xs W (pre++[T1,T2]) w)):=hid fun pre w g h hg=>by
      rw[hT1,hT2];rw[hSJ,hCN]at hg;exact h.run fun r h1 h2 h3=>qeg base wp r [tk0 5 sj 0,tk0 2 cn 0] g 2 _ w0 w w h1 hwp h2 (Bel.refl _) h3 (by simp) (by simp) hg (zM _)
     rw[<- hT1,<- hT2]at hpre;rw[<- hCN]at y0;rw[<- hfl]at y4 hfs0;rw[<- hSJ]at hbx;have HFS:=hid hfs0;have HFL:=hid hfl;have HXS:=hid hxs.2;have hfl1:fl<=1000000:=by rw[hfl];exact hxs.1
     have HPRE:=hid hpre;have HB1:Hid (Bel wo (wo.alloc (.cells #[.string CN,cp.a,cp.l,cp.c,.slice FA fl fc] 49))):=hid ((Bel.refl wo).alloc _);have HS1:=hid (hws.bel HB1);have HX1:=hid (hws.box (.cells #[.string CN,cp.a,cp.l,cp.c,.slice FA fl fc] 49));have HA1:=hid (hws.kp HB1 _ _ hbx);have hob':ub<wo.heap.size:=lT hob hws.1.size;have i1:(0:Int)<=(j2:Int):=by omega
     have i2:(j2:Int)<(cl:Int):=by omega
     have HLT:=hid hlt;clear hfo hx hfs hfs0 hxs hfl hCN hSJ hT1 hT2 hpre hws hbx hob HR HJ x6;go_wp2_with fail;refine qfG wp wo.heap.size w7.heap.size SJ CN cp.a cp.l cp.c FA fl fc _ (wo.alloc (.cells #[.string CN,cp.a,cp.l,cp.c,.slice FA fl fc] 49)) HX1.1 HA1.1 _ ?_;intro V w9 hb9 hv0 ⟨g,hv5,hg⟩;simp only[finP,zz,Nat.reduceAdd,jA,jB,jC,jD,jE,regWe,jF,jG,hv0,hv5];have HS9:=hid (HS1.bel ((Bel.refl _).drew.on hb9));have HX9:=hid (HS1.out.kp ((Bel.refl _).drew.on hb9) _ _ HX1);have HA9:=hid (HS1.out.kp ((Bel.refl _).drew.on hb9) _ _ HA1);have HG9:=hid hg;clear hb9 hv0 hv5 hg y0 y1 y2 y3 y4 hob';go_wp2_with fail;refine (HPC _ _ g HS9 HG9).mono ?_;rintro e w10 ⟨rfl,hs10,hk10⟩;have HS10:=hid hs10;have HX10:=hid (hk10 _ _ HX9);have HA10:=hid (hk10 _ _ HA9);have c4:=qkh HX10.1;have hl10:wo.heap.size<w10.heap.size:=(aJ.1 HX10.1).1;obtain⟨G3,hG3⟩:=nW (pre2++[T1,T2]++fdsK fs);have HG3:=hid hG3;have HK:Hid (∃ pre3,Ws w0 base wp xs W pre3 w10/\Bx w10 wp w7.heap.size (.cells #[.int .u8 5,SJ,(0:Int),(0:Int),(0:Int),(0:Int)] 85)/\pre3++fdsK (fs.drop 0)=G3):=hid ⟨_,HS10,HA10,by rw[HG3.out];rfl⟩;clear hs10 hk10 hG3 HS1 HX1 HA1 HS9 HX9 HA9 HS10 HX10 HA10 HB1;go_wp2_with fail;go_loopw [49] (fun i wr=>∃ j:Nat,j<=fl/\i=.int .i64 (j:Int)/\Hid (∃ pre3,Ws w0 base wp xs W pre3 wr/\Bx wr wp w7.heap.size (.cells #[.int .u8 5,SJ,(0:Int),(0:Int),(0:Int),(0:Int)] 85)/\pre3++fdsK (fs.drop j)=G3)) (fun i _=>fl-(intOf i).toNat)
     case atStart=>exact⟨0,zL _,rfl,HK⟩
     case round=>
      obtain⟨j3,hj3,rfl,HR⟩:=hrel;obtain⟨pre3,hws,hbx,hpre⟩:=HR.out;by_cases hlt:j3<fl
      ·obtain⟨ub3,uo3,eA,hob,hfo⟩:=(HFS.keep QW (fun j hj=>hws.1.block j hj) (fun _ h=>h)).2.2 (by omega)
       subst eA;obtain⟨x,hx⟩:∃ x,fs[j3]?=some x:=⟨_,eG (by rw[<- HFL.out];exact hlt)⟩
       have hxs:=HXS.out x (mGg hx);obtain⟨FKA,fkc,hkk,y0,y1,y2,y3,y4,y5,y6,y7⟩:=(hfo j3 x hx).cells;rw[qbk hx]at hpre;obtain⟨fm,fk,fsn,fn,fp,fkids⟩:=x;simp only[]at y0 y1 y2 y3 y4 y5 y6 y7 hkk hpre;have hkk0:KidsTr w0 (OldT w0) .ty FKA fkids.len fkc fkids:=hkk.keep (fun j hj=>(hws.1.block j hj).symm);have HBR:=hid fun pre w g h hg=>qev (xs:=xs) (W:=W) HTY (lR _) hwp pre w g fk fsn fn fp fkids FKA fkc h hg hkk0 hxs.1 hxs.2;obtain⟨ov1,ov2⟩:=qff fm;obtain⟨ok,hok⟩:=nW ((zg fm).k);obtain⟨os,hos⟩:=nW ((zg fm).s);obtain⟨on,hon⟩:=nW ((zg fm).n);rw[<- hok,<- hos,<- hon]at ov1 ov2;obtain⟨OS,hOS⟩:=nW (⟨os.toArray⟩:BA);obtain⟨T3,hT3⟩:=nW (zg fm);have HOF:Hid (∀ W,Calls Tryz.prog 90 #[.int .u8 fm] W (StR (.agg #[.int .u8 ok,OS,on,(0:Int),(0:Int),(0:Int)]) W)):=hid fun W=>by rw[hOS,<- ov1];exact qfg fm W
       have HPO:Hid (∀ (pre:List Tn) (w:World) (g:Nat),Ws w0 base wp xs W pre w->g=w.heap.size->Calls Tryz.prog 43 #[.pointer (some ⟨wp,0,none⟩),.slice (some ⟨g,0,none⟩) 1 1] (w.alloc (.cells #[.int .u8 ok,.string OS,.int .i64 on,.int .i64 0,.int .i64 0,.int .i64 0] 85)) (WsQ w0 base wp xs W (pre++[T3]) w)):=hid fun pre w g h hg=>by rw[hOS,hT3,<- ov2];exact h.put1g hwp ok os on 1 g hg
       obtain⟨F3,hF3⟩:=nW (brkL (alnT fk fkids.len) (qv fk fsn fn fkids));obtain⟨FJ,hFS⟩:=nW (⟨fsn.toArray⟩:BA);obtain⟨fkl,hfkl⟩:=nW fkids.len;rw[<- hT3,<- hF3]at hpre;rw[<- hF3,<- hFS,<- hfkl]at HBR;rw[<- hFS]at y2;rw[<- hfkl]at y7;have HPRE3:=hid hpre;have HB1:Hid (Bel wr (wr.alloc (.cells #[.int .u8 fm,.int .u8 fk,FJ,.int .u8 fn,fp.a,fp.l,fp.c,.slice FKA fkl fkc] 46))):=hid ((Bel.refl wr).alloc _);have HS1:=hid (hws.bel HB1);have HX1:=hid (hws.box (.cells #[.int .u8 fm,.int .u8 fk,FJ,.int .u8 fn,fp.a,fp.l,fp.c,.slice FKA fkl fkc] 46));have HA1:=hid (hws.kp HB1 _ _ hbx);have hob':ub3<wr.heap.size:=lT hob hws.1.size;have i1:(0:Int)<=(j3:Int):=by omega
       have i2:(j3:Int)<(fl:Int):=by omega
       have HLT3:=hid hlt;clear hfo hx hxs hkk hkk0 ov1 ov2 hok hos hon hOS hT3 hF3 hFS hfkl hpre hws hbx hob HR HK;go_wp2_with fail;refine (HOF _).mono ?_;rintro e w11 ⟨rfl,hb11⟩;have HS11:=hid (HS1.bel hb11);have HX11:=hid (HS1.out.kp hb11 _ _ HX1);have HA11:=hid (HS1.out.kp hb11 _ _ HA1);clear hb11 y0 y1 y2 y3 y4 y5 y6 y7 hob' HS1 HX1 HA1 HB1;go_wp2_with fail;refine (HPO _ _ _ HS11 rfl).mono ?_;rintro e w12 ⟨rfl,hs12,hk12⟩;have HS12:=hid hs12;have HX12:=hid (hk12 _ _ HX11);have HA12:=hid (hk12 _ _ HA11);obtain⟨z0,z1,z2,z3,z4,z5,z6,z7⟩:=qhN HX12.1;have hl12:wr.heap.size<w12.heap.size:=(aJ.1 HX12.1).1;clear hs12 hk12 HS11 HX11 HA11;go_wp2_with fail;refine (HBR _ _ _ HS12 rfl).mono ?_;rintro e w13 ⟨rfl,hs13,hk13⟩;have HR':Hid (∃ pre3,Ws w0 base wp xs W pre3 w13/\Bx w13 wp w7.heap.size (.cells #[.int .u8 5,SJ,(0:Int),(0:Int),(0:Int),(0:Int)] 85)/\pre3++fdsK (fs.drop (j3+1))=G3):=hid ⟨_,hs13,hk13 _ _ HA12,by rw[<- HPRE3.out];simp⟩;clear hs13 hk13 z0 z1 z2 z3 z4 z5 z6 z7 hl12;go_wp2_with fail;go_roundw
       case rel=>exact⟨j3+1,HLT3,by go_num,HR'⟩
       case measure=>exact mS HLT3
      ·obtain rfl:j3=fl:=by omega
       rw[dNn (by rw[<- HFL.out];exact lR _)]at hpre;have hpG:pre3=G3:=by rw[<- hpre];simp[fdsK]
       subst hpG;have HS4:=hid hws;have HA4:=hid hbx;clear hws hbx hpre HR HK c4 hl10;go_wp2_with fail;refine (qf _ _).mono ?_;rintro e w14 ⟨rfl,hb14⟩;have HS14:=hid (HS4.bel hb14);have HA14:=hid (HS4.out.kp hb14 _ _ HA4);obtain⟨⟨a0,a1,a2,a3,a4,a5⟩,f0,f1,f2,f3,f4,f5⟩:=QC HA14.1;have hl14:w7.heap.size<w14.heap.size:=(aJ.1 HA14.1).1;have HR':Hid (∃ pre2 sj,Ws w0 base wp xs W pre2 ((((((w14.setCell ⟨w7.heap.size,0,none⟩ (.int .u8 5)).setCell ⟨w7.heap.size,1,none⟩ (.string ⟨#[124]⟩)).setCell ⟨w7.heap.size,2,none⟩ (.int .i64 0)).setCell ⟨w7.heap.size,3,none⟩ (.int .i64 0)).setCell ⟨w7.heap.size,4,none⟩ (.int .i64 0)).setCell ⟨w7.heap.size,5,none⟩ (.int .i64 0))/\Bx ((((((w14.setCell ⟨w7.heap.size,0,none⟩ (.int .u8 5)).setCell ⟨w7.heap.size,1,none⟩ (.string ⟨#[124]⟩)).setCell ⟨w7.heap.size,2,none⟩ (.int .i64 0)).setCell ⟨w7.heap.size,3,none⟩ (.int .i64 0)).setCell ⟨w7.heap.size,4,none⟩ (.int .i64 0)).setCell ⟨w7.heap.size,5,none⟩ (.int .i64 0)) wp w7.heap.size (.cells #[.int .u8 5,.string ⟨List.toArray sj⟩,(0:Int),(0:Int),(0:Int),(0:Int)] 85)/\pre2++jH sj (cs.drop (j2+1))=F):=hid ⟨_,[124],HS14.out.put6 HA14 HWL HWW _ _ _ _ _ _,HA14.out.put6 _ _ _ _ _ _,by
        rw[<- HPRE.out,HG3.out];simp⟩
       clear hb14 HS4 HA4 HS14 HA14;unfold tokV;go_wp2_with fail;go_roundw
       case rel=>exact⟨j2+1,HLT,by go_num,HR'⟩
       case measure=>exact mS HLT
    ·obtain rfl:j2=cl:=by omega
     rw[dNn (by rw[<- HCL.out];exact lR _)]at hpre;have HQ:=hid (hws.fin (F:=F) (by rw[<- hpre];simp[jH]));clear hws hbx hpre HR HJ;go_wp2_with fail;go_end0;exact HQ
end Go.Proofs.YtmloadclmjcbbaaGreatDoor.Mu
