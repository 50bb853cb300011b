import Derived.Test.YtfpoelklhekfaaaGreatDoorQat
import Derived.Test.YtfpoelklhekfaaaGreatDoorQba
open Go.Lib (hid)
namespace Go.Proofs.YtfpoelklhekfaaaGreatDoor.Mu
set_option maxHeartbeats 2000000
open Go Go.RowKit Go.Shelf
attribute [local go_sem] Oper.semAt_some
set_option linter.unusedVariables false
set_option maxRecDepth 100000
theorem qb1(R:Nat)(A:Option Addr)(n c:Nat)(f:Tr)(w:World)(hk:KidsTr w (OldT w) .ty A n c f)(hsz:f.size<=1000000)(hR:R<=1000000)(ht:Tbl w)(hin:f.ints) :
  Calls Tryz.prog 124 #[.int .i64 (R:Int),.slice A n c,.func (.func 38) #[] #[],.func (.func 125) #[] #[]] w fun e w'=>e=.returned (.bool ((f.pre 0).all (qX (hdP hTf) R)))/\Bel w w':=by
 have HK:=hid hk;have HT:=hid ht;have HIN:=hid hin;clear hk ht hin;obtain⟨SF,hSF⟩:∃ SF:Vis->Bool,SF=qX (hdP hTf) R:=⟨_,rfl⟩
 have HSF:=hid hSF;rw[<- hSF];clear hSF;refine (callsIn_wide (n:=6)).1 ?_;refine callsIn_of_wp_marks Tryz.func124 rfl trivial ?_ rfl;simp only[Tryz.ntmps124,List.size_toArray,List.length_cons,List.length_nil,Nat.reduceAdd,Nat.reduceSub,Array.replicate_succ,Array.replicate_zero,List.push_toArray,List.append_toArray,List.nil_append,List.cons_append];gi_wp2_with (refine⟨trivial,?_⟩;gi_at_call 75;refine (callsIn_wide.2 (Zc _ _ _ _)).mono ?_;rintro e w2 ⟨rfl,rfl⟩)
 obtain⟨hb,hhb⟩:∃ hb,hb=w.heap.size:=⟨_,rfl⟩
 obtain⟨wq,hwq⟩:∃ wq,wq=((((w.alloc (.cells #[.int .i64 (R:Int)] 3)).alloc (.cells #[.func (.func 125) #[] #[]] 211)).alloc (.cells #[.bool false] 4)).alloc (.cells #[.slice A n c] 48)).alloc (.cells #[.func (.func 38) #[] #[]] 102):=⟨_,rfl⟩
 have hbq:Bel w wq:=by rw[hwq];exact (((((Bel.refl w).alloc _).alloc _).alloc _).alloc _).alloc _
 have hsq:wq.heap.size=hb+5:=by rw[hwq,hhb];simp
 have hq4:=blk5 w (.cells #[.int .i64 (R:Int)] 3) (.cells #[.func (.func 125) #[] #[]] 211) (.cells #[.bool false] 4) (.cells #[.slice A n c] 48) (.cells #[.func (.func 38) #[] #[]] 102);rw[<- hwq,<- hhb]at hq4;obtain⟨q0,q1,q2,q3,q4⟩:=hq4;replace q0:Boxed wq hb 3 (.int .i64 (R:Int)):=q0
 replace q1:Boxed wq (hb+1) 211 (.func (.func 125) #[] #[]):=q1
 replace q2:Boxed wq (hb+2) 4 (.bool false):=q2
 replace q3:Boxed wq (hb+3) 48 (.slice A n c):=q3
 replace q4:Boxed wq (hb+4) 102 (.func (.func 38) #[] #[]):=q4
 rw[<- hwq,<- hhb];have HBQ:=hid hbq;have HHB:=hid hhb;have HSQ:=hid hsq;have Q0:=hid q0;have Q1:=hid q1;have Q2:=hid q2;have Q3:=hid q3;have Q4:=hid q4;clear hwq hbq hsq q0 q1 q2 q3 q4 hhb;refine zg (α:=Nd) (gf:=118) (lb:=#[.pointer (some ⟨hb+3,0,none⟩),.pointer (some ⟨hb+4,0,none⟩)]) rfl (fun args w=>by kernel_rfl) (encs:=encT) (Zd A n c (hb+3) (hb+4) f hsz) (fun _=>rfl)
  (fun pre x Y W W' h hs hk=>⟨h.1,h.2.keep (fun j hj=>hk j hj.1 hj.2) (fun j hj=>⟨Nat.lt_of_lt_of_le hj.1 hs,hj.2⟩)⟩)
  (fun xs Y W=>(∀ k,Y k↔(k=hb∨k=hb+1∨k=hb+2))/\Boxed W hb 3 (.int .i64 (R:Int))/\Boxed W (hb+1) 211 (.func (.func 125) #[] #[])/\Boxed W (hb+2) 4 (.bool false)/\hb+5<=W.heap.size/\(xs.map Nd.v).all SF=true)
  (fun xs Y W=>Y (hb+2)/\Boxed W (hb+2) 4 (.bool false)/\(f.pre 0).all SF=false) ?_ (fun s Y W W' h _ hk=>⟨h.1,(hk _ h.1).trans h.2.1,h.2.2⟩)
  (Y0:=fun k=>k=hb∨k=hb+1∨k=hb+2) ?_ (fun k hk=>by have:=HSQ.out;omega) ⟨fun _=>Iff.rfl,Q0.out,Q1.out,Q2.out,by rw[HSQ.out];exact Nat.le_refl _,rfl⟩
  (fun x bx=>{ tmps:=#[.int .i64 (R:Int),.slice A n c,.func (.func 38) #[] #[],.func (.func 125) #[] #[],.pointer (some ⟨hb,0,none⟩),undef,undef,.pointer (some ⟨hb+1,0,none⟩),.pointer (some ⟨hb+2,0,none⟩),x.v.d,.pointer (some ⟨bx,0,none⟩),.slice A n c,.func (.func 38) #[] #[],.func (.func 118) #[] #[.pointer (some ⟨hb+3,0,none⟩),.pointer (some ⟨hb+4,0,none⟩)],x.v.d,.agg #[.int .u8 x.v.k,.string ⟨x.v.s.toArray⟩,.int .u8 x.v.n,x.p.a,x.p.l,x.p.c,.slice x.A x.v.kids.len x.ca],undef,undef,undef,undef,undef,undef,undef,undef,undef,undef,undef,undef],defers:=[] })
  (fun x=> .cells #[.int .u8 x.v.k,.string ⟨x.v.s.toArray⟩,.int .u8 x.v.n,x.p.a,x.p.l,x.p.c,.slice x.A x.v.kids.len x.ca] 50) ?_ ?_ ?_ ?_
 ·rintro s Y W W' ⟨h1,h2,h3,h4,h5,h6⟩ hs hk
  exact⟨h1,(hk hb ((h1 hb).2 (.inl rfl))).trans h2,(hk (hb+1) ((h1 _).2 (.inr (.inl rfl)))).trans h3,(hk (hb+2) ((h1 _).2 (.inr (.inr rfl)))).trans h4,Nat.le_trans h5 hs,h6⟩
 ·rintro Y W hbW hY
  have hn:∀ j,Y j->hb<=j/\j≠hb+3/\j≠hb+4:=fun j hj=>by
   have:=HSQ.out;rcases hY j hj with (h | h | h) | h <;> omega
  refine⟨hbW.blk Q3.out,hbW.blk Q4.out,(HK.out.keep (fun j hj=>(HBQ.out.on hbW).block j hj)).wide (fun j hj=>⟨Nat.lt_of_lt_of_le hj (HBQ.out.on hbW).size,fun h=>?_⟩),fun h=>(hn _ h).2.1 rfl,fun h=>(hn _ h).2.2 rfl⟩;have h1:=(hn j h).1;have h2:j<w.heap.size:=hj;rw[HHB.out]at h1;omega
 ·rintro l x W K hK
  have HKK:=hid hK;clear hK;simp only[encT];gi_wp2
  exact HKK.out
 ·rintro l bx pre x Y W hbx1 hbx2 hob hYb ⟨Y',hYY,⟨suf,hpre⟩,hat⟩ hmv0 hYl ⟨hY,hi0,hi1,hi2,hi3,hi4⟩ hYs
  have hmem:x.v∈f.pre 0:=by rw[hpre];simp
  have hvs:=Tr.pre_size f 0 x.v hmem;have HVS:Hid (x.v.kids.size+x.v.arms.size<=1000000/\x.v.d<=1000000):=hid (by omega);have HVI:=hid (Tr.pre_ints f 0 x.v hmem HIN.out);have HAT:=hid hat;have HYS:=hid hYs;have HY:=hid hY;have HI0:=hid hi0;have HI1:=hid hi1;have HI2:=hid hi2;have HI3:=hid hi3;have HI4:=hid hi4;have HPRE:=hid hpre;have HBX:=hid hbx1;have HTW:Hid (Tbl W):=hid (by
   have h1:Mv (fun k=>k=hb∨k=hb+1∨k=hb+2) w W:=(Mv.of_bel HBQ.out).trans hmv0 (fun j hj=> .inl hj);have h2:Mv (fun _=>False) w W:=⟨h1.os,h1.tape,h1.output,h1.size,fun j hj _=>h1.block j hj (by have:=HHB.out;omega)⟩
   exact HT.out.bel h2.bel)
  obtain⟨xv,xp,xA,xca,xB,xcb⟩:=x;obtain⟨d,k,s,nn,kids,arms⟩:=xv;obtain⟨l1,hl1⟩:∃ l,l=kids.len:=⟨_,rfl⟩
  obtain⟨l2,hl2⟩:∃ l,l=arms.len:=⟨_,rfl⟩
  obtain⟨SS,hSS⟩:∃ S:ByteArray,S=⟨s.toArray⟩:=⟨_,rfl⟩
  simp only at HAT HVS HVI hob ⊢;obtain⟨sb,hsb⟩:∃ sb,sb=(hdP hTf) (R-d) ⟨d,k,s,nn,kids,arms⟩:=⟨_,rfl⟩
  have HSB:Hid (SF ⟨d,k,s,nn,kids,arms⟩=(decide (d<R)&&sb)):=hid (by rw[HSF.out,hsb];rfl);have HCC:Hid (d<R->∀ W',Bel W W'->Calls Tryz.prog 125 #[.int .i64 ((R:Int)-(d:Int)),.agg #[.int .u8 k,.string ⟨s.toArray⟩,.int .u8 nn,xp.a,xp.l,xp.c,.slice xA kids.len xca]] W' fun e w'=>e=.returned (.bool sb)/\Bel W' w'):=hid fun hdR W' hW'=>by
   rw[hsb];exact qc6 k s nn xp xA kids.len xca _ W' (HTW.out.bel hW') HVI.out.1.1
  simp only[<- hl1,<- hSS]at hob HCC ⊢;have hdb:d<=1000000:=HVS.out.2;obtain⟨x0,x1,x2,x3,x4,x5,x6⟩:=box7 hob;have eg:∀ args w,(callFunc 125 args).run Tryz.prog w=.ok (.enter 125 args) w:=fun args w=>by kernel_rfl
  have z0:=hi0.cell;have z1:=hi1.cell;have z2:=hi2.cell;have f2:=hi2.frozen;have hlt2:=hi2.lt;have hlt0:=hi0.lt;have hlt1:=hi1.lt;clear hpre hmem hvs hat hYs hY hYY hi0 hi1 hi2 hi3 hi4 hob hYl hbx1 hYb hl1 hl2 hSS hsb hmv0;have no:∀ W',Bel W W'->SF ⟨d,k,s,nn,kids,arms⟩=false->Mv Y W (W'.setCell ⟨hb+2,0,none⟩ (.bool false))/\∃ Y':Nat->Prop,(Y' (hb+2)/\Boxed (W'.setCell ⟨hb+2,0,none⟩ (.bool false)) (hb+2) 4 (.bool false)/\(f.pre 0).all SF=false)/\∀ k,Y' k->k<(W'.setCell ⟨hb+2,0,none⟩ (.bool false)).heap.size/\(Y k∨W.heap.size<=k):=fun W' hW' hs=>by
   have hB:Boxed W' (hb+2) 4 (.bool false):=hW'.blk HI2.out;refine⟨Mv.set_ (p:=⟨hb+2,0,none⟩) (Mv.of_bel hW') (.inl ((HY.out (hb+2)).2 (.inr (.inr rfl)))) _,Y,⟨(HY.out (hb+2)).2 (.inr (.inr rfl)),hB.set _,?_⟩,fun j hj=>⟨by have:=hW'.size;have:=HYS.out j hj;simp;omega,.inl hj⟩⟩;rw[HPRE.out,List.all_append,List.all_cons,hs];simp
  have NO:=hid no;clear no;by_cases hdR:d<R
  ·have g1:decide (R<=d)=false:=by simp;omega
   have HC:=hid (HCC.out hdR);have hRb:R<=1000000:=hR;clear HCC;cases sb
   ·gi_wp2_with (refine⟨trivial,?_⟩;gi_at_call 125;refine (CallsIn.inRound l (callsIn_wide.2 (HC.out _ (Bel.refl _)))).mono ?_;rintro e w4 ⟨rfl,hb4⟩;(have c4:=(show Boxed w4 (hb+2) 4 (.bool false) from hb4.blk HI2.out).cell);(have f4:=(show Boxed w4 (hb+2) 4 (.bool false) from hb4.blk HI2.out).frozen);(have HB4:=hid hb4);clear hb4)
    exact NO.out w4 HB4.out (by rw[HSB.out];simp)
   ·gi_wp2_with (refine⟨trivial,?_⟩;gi_at_call 125;refine (CallsIn.inRound l (callsIn_wide.2 (HC.out _ (Bel.refl _)))).mono ?_;rintro e w4 ⟨rfl,hb4⟩;(have c4:=(show Boxed w4 (hb+2) 4 (.bool false) from hb4.blk HI2.out).cell);(have f4:=(show Boxed w4 (hb+2) 4 (.bool false) from hb4.blk HI2.out).frozen);(have HB4:=hid hb4);clear hb4)
    have hB0:Boxed w4 hb 3 (.int .i64 (R:Int)):=HB4.out.blk HI0.out;have hB1:Boxed w4 (hb+1) 211 (.func (.func 125) #[] #[]):=HB4.out.blk HI1.out;have hB2:Boxed w4 (hb+2) 4 (.bool false):=HB4.out.blk HI2.out;refine⟨Mv.of_bel HB4.out,Y,⟨HY.out,hB0,hB1,hB2,Nat.le_trans HI3.out HB4.out.size,?_⟩,fun j hj=>⟨Nat.lt_of_lt_of_le (HYS.out j hj) HB4.out.size,.inl hj⟩⟩;rw[List.map_append,List.all_append,HI4.out,List.map_cons,List.map_nil,List.all_cons,HSB.out];simp[hdR]
  ·have g1:R<=d:=by omega
   have g2:decide (R<=d)=true:=by simp;omega
   clear HCC;gi_wp2
   refine⟨fun _ _=>trivial,?_⟩;gi_wp2
   exact NO.out W (Bel.refl W) (by rw[HSB.out];simp[hdR])
 ·rintro D xs Y W hD hfin ⟨hY,hi0,hi1,hi2,hi3,hi4⟩ hmv hYs hDd hYD
  have HI:=hid hi2;have HFIN:=hid hfin;have HALL:=hid hi4;have HMV:=hid hmv;have HDD:=hid hDd;have HDL:=hid hD;have c1:=hi2.cell;have f1:=hi2.frozen;have hlt:=hi2.lt;have HNE:Hid (D≠hb+2):=hid (fun e=>hYD ((hY D).2 (.inr (.inr e))));clear hY hi0 hi1 hi2 hi3 hi4 hmv hYs hDd hYD hfin hD;simp only[Exit.inBlock,Exit.then];gi_wp2
  have hbo:Boxed (W.setCell ⟨hb+2,0,none⟩ (.bool true)) (hb+2) 4 (.bool true):=(show Boxed W (hb+2) 4 (.bool false) from HI.out).set _;have hdd:(W.setCell ⟨hb+2,0,none⟩ (.bool true)).heap[D]?=some (.deferred (some [])):=(Below.heap_setCell W _ _ D HNE.out).trans HDD.out;refine qw hdd (fun w' hmw=>⟨.bool true,qf rfl _ _ _ rfl ?_,?_⟩)
  ·have h2:Boxed w' (hb+2) 4 (.bool true):=(hmw.block (hb+2) hbo.lt (fun e=>HNE.out e.symm)).trans hbo
   exact zz h2
  ·have hv:(f.pre 0).all SF=true:=by rw[<- HFIN.out];exact HALL.out
   rw[hv];refine⟨rfl,?_⟩;have h1:Mv (fun k=>k=hb∨k=hb+1∨k=hb+2) w W:=(Mv.of_bel HBQ.out).trans HMV.out (fun j hj=> .inl hj);have h3:Mv (fun k=>k=hb∨k=hb+1∨k=hb+2) w (W.setCell ⟨hb+2,0,none⟩ (.bool true)):=h1.set_ (.inl (.inr (.inr rfl))) _;have h2:Mv (fun _=>False) w (W.setCell ⟨hb+2,0,none⟩ (.bool true)):=⟨h3.os,h3.tape,h3.output,h3.size,fun j hj _=>h3.block j hj (by have:=HHB.out;omega)⟩
   exact (h2.trans hmw (fun j hj=> .inr (by have:=HDL.out;have:=HBQ.out.size;omega))).bel
 ·rintro D xs Y W hD ⟨hy2,hbx,hfl⟩ hmv hYs hDd hYD
  refine qw hDd (fun w' hmw=>⟨.bool false,qf rfl _ _ _ rfl ?_,?_⟩)
  ·have h2:Boxed w' (hb+2) 4 (.bool false):=(hmw.block (hb+2) hbx.lt (fun e=>hYD (e ▸ hy2))).trans hbx
   exact zz h2
  ·rw[hfl]
   refine⟨rfl,?_⟩;have h1:Mv (fun k=>k=hb∨k=hb+1∨k=hb+2) w W:=(Mv.of_bel HBQ.out).trans hmv (fun j hj=> .inl hj);have h2:Mv (fun _=>False) w W:=⟨h1.os,h1.tape,h1.output,h1.size,fun j hj _=>h1.block j hj (by have:=HHB.out;omega)⟩
   exact (h2.trans hmw (fun j hj=> .inr (by have:=HBQ.out.size;omega))).bel
set_option maxHeartbeats 4000000
noncomputable def fdMay (x:Fd):Bool:=mltB x.m&&(x.tr.pre 0).all (qX (hdP hTf) 60)
noncomputable def cdMay (x:Cd):Bool:=x.fs.all fdMay&&mtB (2,x.nm,0)
def Fd.ints(x:Fd):Prop:=x.tr.ints
theorem qb2(nm:List UInt8)(p:Pl)(A:Option Addr)(n c:Nat)(fs:List Fd)(w:World)(hk:RowOf 8 FdAt w (OldT w) A n c fs)(hn:n<=1000000)(hg:∀ x∈fs,x.good/\x.ints)(ht:Tbl w)(hs:nm.length<=140737488355328) :
  Calls Tryz.prog 89 #[.agg #[.string ⟨nm.toArray⟩,p.a,p.l,p.c,.slice A n c]] w (qz (cdMay ⟨nm,p,fs⟩) w):=by
 have H:=hid hk;have HL:Hid (n=fs.length):=hid hk.1;have HG:=hid hg;have HT:=hid ht;obtain⟨r,hr⟩:∃ r,r=cdMay ⟨nm,p,fs⟩:=⟨_,rfl⟩
 rw[<- hr];have HR:Hid (r=(fs.all fdMay&&mtB (2,nm,0))):=hid hr;have HTK:Hid (∀ W,Bel w W->Calls Tryz.prog 47 #[tokV 2 ⟨nm.toArray⟩] W (qz (mtB (2,nm,0)) W)):=hid fun W hW=>zW 2 nm 0 ⟨0,0,0⟩ W (ht.bel hW) hs (by decide) (by decide);obtain⟨q,hq⟩:∃ q,q=mtB (2,nm,0):=⟨_,rfl⟩
 rw[<- hq]at HR HTK;obtain⟨S,hS⟩:∃ S:ByteArray,S=⟨nm.toArray⟩:=⟨_,rfl⟩
 rw[<- hS]at HTK ⊢;clear hk hg ht hr hs hq hS;have hb1:Bel w (w.alloc (.cells #[.string S,p.a,p.l,p.c,.slice A n c] 56)):=(Bel.refl w).alloc _;have hq1:=blk1 w (.cells #[.string S,p.a,p.l,p.c,.slice A n c] 56);go_enter Tryz.func89,Tryz.ntmps89
 go_wp2_with fail
 obtain⟨w1,hw1⟩:∃ w1,w1=w.alloc (.cells #[.string S,p.a,p.l,p.c,.slice A n c] 56):=⟨_,rfl⟩
 rw[<- hw1]at hb1 hq1 ⊢;have HB1:=hid hb1;have HQ1:=hid hq1;have HS1:Hid (w.heap.size<w1.heap.size):=hid (Array.getElem?_eq_some_iff.1 hq1).1;clear hb1 hq1 hw1;go_loopw [8] (fun i wr=>∃ j:Nat,j<=n/\i=.int .i64 (j:Int)/\Hid (fs.all fdMay=(fs.drop j).all fdMay)/\Hid (Bel w1 wr)) (fun i _=>n-(intOf i).toNat)
 case atStart=>exact⟨0,Nat.zero_le _,rfl,hid rfl,hid (Bel.refl _)⟩
 case round=>
  obtain⟨j,hj,rfl,HRJ,HB⟩:=hrel;by_cases hlt:j<n
  ·obtain⟨ub,uo,eA,hob,hfo⟩:=(H.out.bel jK (HB1.out.on HB.out)).2.2 (by omega)
   subst eA;obtain⟨x,hx⟩:∃ x,fs[j]?=some x:=⟨_,List.getElem?_eq_getElem (by rw[<- HL.out];exact hlt)⟩
   have hgx:=HG.out x (List.mem_of_getElem? hx);have hjd:(fs.drop j).all fdMay=(fdMay x&&(fs.drop (j+1)).all fdMay):=by
    obtain⟨h1,h2⟩:=List.getElem?_eq_some_iff.1 hx;rw[List.drop_eq_getElem_cons h1,h2,List.all_cons]
   obtain⟨A',ca',hkk,y0,y1,y2,y3,y4,y5,y6,y7⟩:=(hfo j x hx).cells;obtain⟨m,k,s,nn,p',kids⟩:=x;obtain⟨q2,hq2⟩:∃ q2,q2=((Tr.nod k s nn p' kids .nil .nil).pre 0).all (qX (hdP hTf) 60):=⟨_,rfl⟩
   have HRN:Hid (fs.all fdMay=(mltB m&&q2&&(fs.drop (j+1)).all fdMay)):=hid (by rw[HRJ.out,hjd,hq2];rfl);have HC:Hid (∀ (g:Nat) (t:TypeId) (W:World),Bel wr W->W.heap[g]?=some (.cells #[.int .u8 k,.string ⟨s.toArray⟩,.int .u8 nn,p'.a,p'.l,p'.c,.slice A' kids.len ca'] t (0,0)) →
     Calls Tryz.prog 124 #[.int .i64 60,.slice (some ⟨g,0,none⟩) 1 1,.func (.func 38) #[] #[],.func (.func 125) #[] #[]] W (qz q2 W)):=hid fun g t W hW h1=>by
    have e1:=jx (sh:= .ty) (arms:= .nil) (B:=none) (bc:=0) (by intro e;cases e) hkk (.inr ⟨.inr rfl,rfl⟩) hW h1;rw[hq2];exact qb1 60 _ 1 1 _ W e1 (by have:=hgx.1;simp only[Fd.good]at this;simp only[Tr.size];omega) (by decide) (HT.out.bel ((HB1.out.on HB.out).on hW)) hgx.2
   simp only[]at y0 y1 y2 y3 y4 y5 y6 y7;obtain⟨l1,hl1⟩:∃ l,l=kids.len:=⟨_,rfl⟩
   obtain⟨SS,hSS⟩:∃ S:ByteArray,S=⟨s.toArray⟩:=⟨_,rfl⟩
   rw[<- hl1,<- hSS]at HC;rw[<- hSS]at y2;rw[<- hl1]at y7;have i1:(0:Int)<=(j:Int):=by omega
   have i2:(j:Int)<(n:Int):=by omega
   have hob':ub<wr.heap.size:=hob;have HLT:=hid hlt;have q4:=blk2 wr (.cells #[.int .u8 m,.int .u8 k,SS,.int .u8 nn,p'.a,p'.l,p'.c,.slice A' l1 ca'] 53) (.cells #[.int .u8 k,SS,.int .u8 nn,p'.a,p'.l,p'.c,.slice A' l1 ca'] 50);have HC2:=hid (HC.out (wr.heap.size+1) _ _ (((Bel.refl wr).alloc _).alloc _) q4.2);clear hfo hx hgx hjd hkk hq2 hl1 hSS hob q4 HC;obtain⟨b,hbm⟩:∃ b,b=mltB m:=⟨_,rfl⟩
   rw[<- hbm]at HRN;have HM:Hid (∀ W,Calls Tryz.prog 123 #[.int .u8 m] W fun e w'=>e=.returned (.bool b)/\w'=W):=hid fun W=>by rw[hbm];exact ZC m W
   clear hbm;go_wp2_with fail
   refine (HM.out _).mono ?_;rintro e w5 ⟨rfl,rfl⟩;cases b
   ·have hr0:r=false:=by rw[HR.out,HRN.out];simp
    subst hr0;go_wp2_with fail
    go_ret
    exact⟨rfl,HB1.out.on (HB.out.alloc _)⟩
   go_wp2_with fail
   refine HC2.out.mono ?_;rintro e w6 ⟨rfl,hb6⟩;have HB6:=hid (((HB.out.alloc _).alloc _).on hb6);clear hb6 HC2 y0 y1 y2 y3 y4 y5 y6 y7;cases q2
   ·have hr0:r=false:=by rw[HR.out,HRN.out];simp
    subst hr0;go_wp2_with fail
    go_ret
    exact⟨rfl,HB1.out.on HB6.out⟩
   ·have HR':Hid (fs.all fdMay=(fs.drop (j+1)).all fdMay):=hid (by rw[HRN.out];simp)
    go_wp2_with fail
    go_roundw
    case rel=>exact⟨j+1,HLT.out,by go_num,HR',HB6⟩
    case measure=>have:=HLT.out;simp[intOf];omega
  ·obtain rfl:j=n:=by omega
   have hr1:r=q:=by rw[HR.out,HRJ.out,List.drop_eq_nil_of_le (by rw[<- HL.out];exact Nat.le_refl _)];simp
   subst hr1;have x0:=(box5 (HB.out.blk HQ1.out)).1;have kb:w.heap.size<wr.heap.size:=Nat.lt_of_lt_of_le HS1.out HB.out.size;go_wp2_with fail
   refine (jV _ _).mono ?_;rintro e w5 ⟨rfl,hb5⟩;have HB5:=hid (HB.out.on hb5);clear hb5 x0 kb;go_wp2_with fail
   refine (HTK.out _ (HB1.out.on HB5.out)).mono ?_;rintro e w6 ⟨rfl,hb6⟩;have HB6:=hid (HB5.out.on hb6);clear hb6;go_wp2_with fail
   go_ret
   exact⟨rfl,HB1.out.on HB6.out⟩
end Go.Proofs.YtfpoelklhekfaaaGreatDoor.Mu
